/- What the laws of this seat lean on: 3 texts. -/
import Derived.Test.YtjlappamkfjlkaaGreatDoorPkAe
set_option maxRecDepth 100000
set_option maxHeartbeats 64000000
set_option linter.unusedVariables false
set_option linter.unusedSimpArgs false
namespace Go.Proofs.YtjlappamkfjlkaaGreatDoor
open Go.RowKit
namespace Hr
def IntX (n : Nat) (ys : List Value) : Prop := ys = [.int .i64 n]
theorem shp_int : Ow.Shp IntX 1 := by rintro x ys rfl; exact ⟨rfl, by intro u hu; simp at hu; subst hu; rfl⟩
theorem i_int : (Tryz.prog.info? 3).map (fun i => (i.zero.map (fun z => z.cells.size), i.size, i.bytes)) = some (some 1, 1, 8) := by kernel_rfl
theorem row_one {α : Type} {W : World} {sz : Nat} {P : α -> List Value -> Prop} {x : α} {c : Array Value} {t : TypeId} {f : Nat × Nat} {b : Nat} (hb : W.heap[b]? = some (.cells c t f)) (hx : P x c.toList) : RowX W sz P (.slice (some ⟨b, 0, none⟩) 1 1) [x] := by
 refine ⟨_, _, rfl, by simp, .inr ⟨b, 0, rfl, Ow.lt_of_blk hb, fun k y hk => ?_⟩⟩
 cases k with
 | succ k => simp at hk
 | zero =>
   simp at hk; subst hk; refine ⟨_, hx, fun j u hj => ?_⟩; simp only [Nat.zero_mul, Nat.zero_add]; rw [cell_box hb]
   simpa using hj
theorem at_c {W : World} {c : Pp.XCls} {ys : List Value} (h : ClsX W c ys) : ∃ va1 vd1 va2 vd2 va3 vd3, ys = [.string ⟨c.name.toArray⟩, .bool c.iface, .string ⟨c.super.toArray⟩, .slice va1 c.ifaces.length vd1, .slice va2 c.fields.length vd2, .slice va3 c.methods.length vd3] := by
 obtain ⟨vp, vc, vk, rfl, p1, i1, k1, z1⟩ := h; obtain ⟨va1, vd1, rfl, _⟩ := p1.len; obtain ⟨va2, vd2, rfl, _⟩ := i1.len; obtain ⟨va3, vd3, rfl, _⟩ := k1.len; exact ⟨va1, vd1, va2, vd2, va3, vd3, rfl⟩
theorem upL_some {l : List Pp.XCls} {b : Bool} {n : Pp.Bs} {k : Nat} {c : Pp.XCls} (hp : placeL l n = some k) (hc : l[k]? = some c) : upL l b n = if c.iface = b then some k else none := by
 unfold upL; rw [hp]; simp only [hc]
theorem upL_none {l : List Pp.XCls} {b : Bool} {n : Pp.Bs} (hp : placeL l n = none) : upL l b n = none := by
 unfold upL; rw [hp]
end Hr
theorem ups_any (l : List Pp.XCls) (v : Value) (c : Pp.XCls) (ys : List Value) (w : World) (h : RowX w 6 (ClsX w) v l) (hlen : l.length <= 1000) (hc : ClsX w c ys) (hi : c.ifaces.length <= 1000) :
 Calls Tryz.prog 96 #[v, .agg ys.toArray] w fun e w' => (∃ v', e = .returned (.tuple #[v', .bool (Hr.upsL l c).isSome]) /\ Ow.OwnX w' w.heap.size 3 1 Hr.IntX v' ((Hr.upsL l c).getD [])) /\ Below w.heap.size w w' := by
 have HS := hide (fun wx (hb : Below w.heap.size w wx) => superOf_any c ys wx (hc.on hb)); have HP := hide (fun (n : Pp.Bs) wx (hb : Below w.heap.size w wx) => place_any l v n wx (h.on hb fun _ _ h => h.on hb) (by unfold maxLen; omega))
 have HI := hide hc; obtain ⟨va1, vd1, va2, vd2, va3, vd3, rfl⟩ := Hr.at_c hc; obtain ⟨ux1, ux2, ux3, hux, hii, _⟩ := hc; simp only [clsXL, List.cons.injEq, and_true, true_and] at hux; obtain ⟨rfl, rfl, rfl⟩ := hux; have HN := hide hii; clear hii; have H := hide h; obtain ⟨i0, hi1, hz0, hz1, hz2⟩ := Ow.info_of Hr.i_int; obtain ⟨pa, pc, rfl, _⟩ := h.len; obtain ⟨m, hm⟩ : ∃ m, m = l.length := ⟨_, rfl⟩; have HM := hide hm; rw [<- hm] at H HP hlen ⊢; clear h hm; obtain ⟨q, hq⟩ : ∃ q, q = c.ifaces.length := ⟨_, rfl⟩; have HQ := hide hq; rw [<- hq] at HS HN hi ⊢; clear hq HI; have hx0 := heap_alloc_new w (.cells #[.string ⟨c.name.toArray⟩, .bool c.iface, .string ⟨c.super.toArray⟩, .slice va1 q vd1, .slice va2 c.fields.length vd2, .slice va3 c.methods.length vd3] 59); have HB0 := hide ((Below.refl w.heap.size w).alloc (Nat.le_refl _) (.cells #[.string ⟨c.name.toArray⟩, .bool c.iface, .string ⟨c.super.toArray⟩, .slice va1 q vd1, .slice va2 c.fields.length vd2, .slice va3 c.methods.length vd3] 59)); cases hs : Hr.superL c with
 | none =>
   have hS : Hid (Hr.supL l c = some []) := hide (by unfold Hr.supL; rw [hs])
   rw [hs] at HS; simp only [Hr.pairS] at HS; clear hs; have HX0 := hide hx0; clear hx0; go_enter Tryz.func96, Tryz.ntmps96; go_wp2_with fail; have hx0 := HX0.out; generalize w.alloc (.cells #[.string ⟨c.name.toArray⟩, .bool c.iface, .string ⟨c.super.toArray⟩, .slice va1 q vd1, .slice va2 c.fields.length vd2, .slice va3 c.methods.length vd3] 59) = w0 at *
   have HC : Hid (∀ wx, Below w0.heap.size w0 wx -> ∀ k : Nat, wx.cell? ⟨w.heap.size, k, none⟩ = #[.string ⟨c.name.toArray⟩, .bool c.iface, .string ⟨c.super.toArray⟩, .slice va1 q vd1, .slice va2 c.fields.length vd2, .slice va3 c.methods.length vd3][k]?) := hide fun wx hb k => cell_box ((hb.block w.heap.size (Ow.lt_of_blk hx0)).trans hx0) k; clear hx0 HX0; refine (HS.out w0 HB0.out).mono ?_; rintro e w1 ⟨rfl, hb1⟩; have HW := hide hb1; obtain ⟨s0, hs0⟩ : ∃ s : List Nat, s = [] := ⟨_, rfl⟩; have HO : Hid (Ow.OwnX w1 w0.heap.size 3 1 Hr.IntX (.slice none 0 0) s0) := hide (by rw [hs0]; exact Ow.OwnX.nil _ _ _ _ _)
   rw [<- hs0] at hS; have HSl : Hid (s0.length <= 1) := hide (by simp [hs0])
   clear hs0 hb1 HS; have e3 := HC.out w1 HW.out 3; simp at e3; go_wp2_with fail
   go_loopw [6, 43] (fun lv i wr => ∃ (k : Nat) (r acc : List Nat), k <= q /\ i = .int .i64 k /\ Hid (Below w0.heap.size w0 wr) /\ Hid (Ow.OwnX wr w0.heap.size 3 1 Hr.IntX lv acc) /\ Hid (Hr.ifsL l (c.ifaces.take k) = some r) /\ Hid (r.length = k) /\ Hid (acc = s0 ++ r)) (fun lv i _ => q - (intOf i).toNat)
   case atStart => exact ⟨0, [], s0, Nat.zero_le _, rfl, HW, HO, hide rfl, hide rfl, hide (by simp)⟩
   case round =>
    obtain ⟨k, r, acc, hk, rfl, HBr, HOr, HF, hrk, hacc⟩ := hrel; have hmax : (q : Int) <= 1000 := by omega
    have HBw := hide (HB0.out.trans (HBr.out.mono HB0.out.size)); obtain ⟨la, lc, rfl⟩ := HOr.out.shape; by_cases hlt : k < q
    · obtain ⟨x, hx⟩ : ∃ x, c.ifaces[k]? = some x := ⟨c.ifaces[k]'(by rw [<- HQ.out]; exact hlt), List.getElem?_eq_getElem _⟩
      obtain ⟨g1, o1, rfl, ys1, ⟨rfl, _⟩, hc1⟩ := Hr.row_at HN.out hx; have r0 := hc1 wr HBw.out 0 _ rfl; simp only [Nat.mul_one, Nat.add_zero] at r0; clear hc1; have HPx := hide (HP.out x); have HST := hide (Hr.ifsL_step (l := l) hx); have hlt' : (k : Int) < (q : Int) := by omega
      cases hp : Hr.placeL l x with
      | none =>
        have HR : Hid (Hr.upsL l c = none) := hide (by
         have h1 := HST.out; rw [HF.out, Hr.upL_none hp] at h1; have h2 := Hr.ifsL_take h1
         unfold Hr.upsL; rw [hS.out]; simp only; rw [h2]; rfl)
        rw [hp] at HPx; simp only [Hr.pairP] at HPx; clear hp hx HST HF; generalize (⟨x.toArray⟩ : ByteArray) = xb at *
        go_wp2_with fail; refine (HPx.out _ HBw.out).mono ?_; rintro e w5 ⟨rfl, hb5⟩; have HB5 := hide (HBw.out.trans (hb5.mono HBw.out.size)); clear hb5 HPx; go_wp2_with fail; refine bodyPost_ret (v := .tuple #[.slice none 0 0, .bool false]) (by simp [results, Tryz.results96, go_sem]) rfl ?_
        rw [HR.out]; exact ⟨⟨_, rfl, Ow.OwnX.nil _ _ _ _ _⟩, HB5.out⟩
      | some j =>
        obtain ⟨d, hd, _⟩ := Hr.placeL_lt hp; have hjm : j < m := by rw [HM.out]; exact (List.getElem?_eq_some_iff.1 hd).1
        have HU := hide (Hr.upL_some (b := true) hp hd); obtain ⟨g2, o2, eg2, ys2, w2', hc2⟩ := Hr.row_at H.out hd; cases eg2; rw [hp] at HPx; simp only [Hr.pairP] at HPx
        have HD1 : Hid (∀ wx, Below w.heap.size w wx -> wx.cell? ⟨g2, o2 + j * 6 + 1, none⟩ = some (.bool d.iface)) := hide fun wx hb => by
         obtain ⟨_, _, _, _, _, _, rfl⟩ := Hr.at_c w2'; exact hc2 wx hb 1 _ rfl
        have HDa : Hid (∀ wx, Below w.heap.size w wx -> ∃ va1 vd1 va2 vd2 va3 vd3, wx.cell? ⟨g2, o2 + j * 6, none⟩ = some (.string ⟨d.name.toArray⟩) /\ wx.cell? ⟨g2, o2 + j * 6 + 1, none⟩ = some (.bool d.iface) /\ wx.cell? ⟨g2, o2 + j * 6 + 2, none⟩ = some (.string ⟨d.super.toArray⟩) /\ wx.cell? ⟨g2, o2 + j * 6 + 3, none⟩ = some (.slice va1 d.ifaces.length vd1) /\ wx.cell? ⟨g2, o2 + j * 6 + 4, none⟩ = some (.slice va2 d.fields.length vd2) /\ wx.cell? ⟨g2, o2 + j * 6 + 5, none⟩ = some (.slice va3 d.methods.length vd3)) := hide fun wx hb => by
         obtain ⟨va1, vd1, va2, vd2, va3, vd3, rfl⟩ := Hr.at_c w2'; exact ⟨va1, vd1, va2, vd2, va3, vd3, hc2 wx hb 0 _ rfl, hc2 wx hb 1 _ rfl, hc2 wx hb 2 _ rfl, hc2 wx hb 3 _ rfl, hc2 wx hb 4 _ rfl, hc2 wx hb 5 _ rfl⟩
        clear hc2 w2' hp hd hx; generalize (⟨x.toArray⟩ : ByteArray) = xb at *
        have hjm' : (j : Int) < (m : Int) := by omega
        have hm1 : (m : Int) <= 1000 := by omega
        by_cases hif : d.iface = true
        · have HR : Hid (Hr.ifsL l (c.ifaces.take (k + 1)) = some (r ++ [j])) := hide (by rw [HST.out, HF.out, HU.out, hif]; rfl)
          rw [hif] at HD1 HDa; clear HST HF HU; go_wp2_with fail; refine (HPx.out _ HBw.out).mono ?_; rintro e w5 ⟨rfl, hb5⟩; have HB5 := hide (HBr.out.trans (hb5.mono HBr.out.size)); have HO5 := hide (HOr.out.on hb5 fun _ _ h => h); have d1 := HD1.out w5 (HBw.out.trans (hb5.mono HBw.out.size)); clear hb5 HPx HBw HBr HOr
          go_wp2_with (at_builtin; refine Ow.wpList_app rfl (.tmp 63) (.tmp 65) 158 rfl Tryz.underlying158 hi1 hz0 hz1 hz2 (by decide) Hr.shp_int rfl ((HO5.out).on ((Below.refl _ _).alloc (Nat.le_refl _) (.cells #[.int .i64 j] 3)) fun _ _ h => h) rfl (Hr.row_one (sz := 1) (heap_alloc_new w5 (.cells #[.int .i64 j] 3)) rfl) ?c1 (by decide) ?c2 ?_)
          case c1 => have := HSl.out; have := hrk.out; have := hacc.out; subst this; simp; omega
          case c2 => simp; have := HB5.out.size; omega
          · intro v' w10 hown hgrow
            have hb10 := Ow.bel_grown ((HO5.out).on ((Below.refl _ _).alloc (Nat.le_refl _) (.cells #[.int .i64 j] 3)) fun _ _ h => h) (by simp; have := HB5.out.size; omega) hgrow
            have HB10 := hide ((HB5.out.trans ((Below.refl _ _).alloc HB5.out.size _)).trans hb10); have HO10 := hide hown; clear hown hgrow hb10 HB5 HO5 d1; go_wp2_with fail
            go_roundw
            case rel => first | exact ⟨k + 1, r ++ [j], acc ++ [j], by omega, by go_num, HB10, HO10, HR, hide (by have := hrk.out; simp; omega), hide (by rw [hacc.out, List.append_assoc])⟩ | ((repeat apply Exists.intro); exact ⟨⟨k + 1, r ++ [j], acc ++ [j], by omega, by go_num, HB10, HO10, HR, hide (by have := hrk.out; simp; omega), hide (by rw [hacc.out, List.append_assoc])⟩, rfl⟩)
            case measure => simp [intOf]; omega
        · have hif' : d.iface = false := by simpa using hif
          have HR : Hid (Hr.upsL l c = none) := hide (by
           have h1 := HST.out; rw [HF.out, HU.out, if_neg hif] at h1; have h2 := Hr.ifsL_take h1
           unfold Hr.upsL; rw [hS.out]; simp only; rw [h2]; rfl)
          rw [hif'] at HD1 HDa; clear HST HF HU; go_wp2_with fail; refine (HPx.out _ HBw.out).mono ?_; rintro e w5 ⟨rfl, hb5⟩; have HB5 := hide (HBw.out.trans (hb5.mono HBw.out.size)); have d1 := HD1.out w5 (HBw.out.trans (hb5.mono HBw.out.size)); clear hb5 HPx HBw HBr HOr; go_wp2_with fail; refine bodyPost_ret (v := .tuple #[.slice none 0 0, .bool false]) (by simp [results, Tryz.results96, go_sem]) rfl ?_
          rw [HR.out]; exact ⟨⟨_, rfl, Ow.OwnX.nil _ _ _ _ _⟩, HB5.out⟩
    · have HR : Hid (Hr.upsL l c = some (s0 ++ r)) := hide (by
       have h1 := HF.out; rw [List.take_of_length_le (by rw [<- HQ.out]; omega)] at h1
       unfold Hr.upsL; rw [hS.out]; simp only; rw [h1]; rfl)
      have hnl : ¬ ((k : Int) < (q : Int)) := by omega
      clear HF; go_wp2_with fail; refine bodyPost_ret (v := .tuple #[.slice la acc.length lc, .bool true]) (by simp [results, Tryz.results96, go_sem]) rfl ?_
      rw [HR.out, <- hacc.out]; exact ⟨⟨_, rfl, HOr.out.low HB0.out.size fun _ _ h => h⟩, HBw.out⟩
 | some n =>
   rw [hs] at HS; simp only [Hr.pairS] at HS; have HX0 := hide hx0; clear hx0; have HPx := hide (HP.out n); cases hp : Hr.placeL l n with
   | none =>
     have HR : Hid (Hr.upsL l c = none) := hide (by unfold Hr.upsL Hr.supL; rw [hs]; simp only; rw [Hr.upL_none hp]; rfl)
     rw [hp] at HPx; simp only [Hr.pairP] at HPx; clear hp hs; generalize (⟨n.toArray⟩ : ByteArray) = nb at *
     go_enter Tryz.func96, Tryz.ntmps96; go_wp2_with fail; generalize w.alloc (.cells #[.string ⟨c.name.toArray⟩, .bool c.iface, .string ⟨c.super.toArray⟩, .slice va1 q vd1, .slice va2 c.fields.length vd2, .slice va3 c.methods.length vd3] 59) = w0 at *
     refine (HS.out w0 HB0.out).mono ?_; rintro e w1 ⟨rfl, hb1⟩; have HB1 := hide (HB0.out.trans (hb1.mono HB0.out.size)); clear hb1; go_wp2_with fail; refine (HPx.out w1 HB1.out).mono ?_; rintro e w5 ⟨rfl, hb5⟩; have HB5 := hide (HB1.out.trans (hb5.mono HB1.out.size)); clear hb5 HPx; go_wp2_with fail; refine bodyPost_ret (v := .tuple #[.slice none 0 0, .bool false]) (by simp [results, Tryz.results96, go_sem]) rfl ?_
     rw [HR.out]; exact ⟨⟨_, rfl, Ow.OwnX.nil _ _ _ _ _⟩, HB5.out⟩
   | some j =>
     obtain ⟨d, hd, _⟩ := Hr.placeL_lt hp; have hjm : j < m := by rw [HM.out]; exact (List.getElem?_eq_some_iff.1 hd).1
     have HU := hide (Hr.upL_some (b := false) hp hd); have HSS := hide hs; obtain ⟨g2, o2, eg2, ys2, w2', hc2⟩ := Hr.row_at H.out hd; subst eg2; rw [hp] at HPx; simp only [Hr.pairP] at HPx
     have HD1 : Hid (∀ wx, Below w.heap.size w wx -> wx.cell? ⟨g2, o2 + j * 6 + 1, none⟩ = some (.bool d.iface)) := hide fun wx hb => by
      obtain ⟨_, _, _, _, _, _, rfl⟩ := Hr.at_c w2'; exact hc2 wx hb 1 _ rfl
     clear hc2 w2' hp hd hs; generalize (⟨n.toArray⟩ : ByteArray) = nb at *
     have hjm' : (j : Int) < (m : Int) := by omega
     have hm1 : (m : Int) <= 1000 := by omega
     by_cases hif : d.iface = true
     · have HR : Hid (Hr.upsL l c = none) := hide (by unfold Hr.upsL Hr.supL; rw [HSS.out]; simp only; rw [HU.out, hif]; rfl)
       rw [hif] at HD1; clear HU HSS; go_enter Tryz.func96, Tryz.ntmps96; go_wp2_with fail; generalize w.alloc (.cells #[.string ⟨c.name.toArray⟩, .bool c.iface, .string ⟨c.super.toArray⟩, .slice va1 q vd1, .slice va2 c.fields.length vd2, .slice va3 c.methods.length vd3] 59) = w0 at *
       refine (HS.out w0 HB0.out).mono ?_; rintro e w1 ⟨rfl, hb1⟩; have HB1 := hide (HB0.out.trans (hb1.mono HB0.out.size)); clear hb1; go_wp2_with fail; refine (HPx.out w1 HB1.out).mono ?_; rintro e w5 ⟨rfl, hb5⟩; have HB5 := hide (HB1.out.trans (hb5.mono HB1.out.size)); have d1 := HD1.out w5 HB5.out; clear hb5 HPx; go_wp2_with fail; refine bodyPost_ret (v := .tuple #[.slice none 0 0, .bool false]) (by simp [results, Tryz.results96, go_sem]) rfl ?_
       rw [HR.out]; exact ⟨⟨_, rfl, Ow.OwnX.nil _ _ _ _ _⟩, HB5.out⟩
     · have hif' : d.iface = false := by simpa using hif
       obtain ⟨s0, hs0⟩ : ∃ s : List Nat, s = [j] := ⟨_, rfl⟩; have hS : Hid (Hr.supL l c = some s0) := hide (by unfold Hr.supL; rw [HSS.out]; simp only; rw [HU.out, hif', hs0]; rfl)
       rw [hif'] at HD1; clear HU HSS; go_enter Tryz.func96, Tryz.ntmps96; go_wp2_with fail; have hx0 := HX0.out; generalize w.alloc (.cells #[.string ⟨c.name.toArray⟩, .bool c.iface, .string ⟨c.super.toArray⟩, .slice va1 q vd1, .slice va2 c.fields.length vd2, .slice va3 c.methods.length vd3] 59) = w0 at *
       have HC : Hid (∀ wx, Below w0.heap.size w0 wx -> ∀ k : Nat, wx.cell? ⟨w.heap.size, k, none⟩ = #[.string ⟨c.name.toArray⟩, .bool c.iface, .string ⟨c.super.toArray⟩, .slice va1 q vd1, .slice va2 c.fields.length vd2, .slice va3 c.methods.length vd3][k]?) := hide fun wx hb k => cell_box ((hb.block w.heap.size (Ow.lt_of_blk hx0)).trans hx0) k; clear hx0 HX0; refine (HS.out w0 HB0.out).mono ?_; rintro e w1 ⟨rfl, hb1⟩; have HB1 := hide hb1; have HB1' := hide (HB0.out.trans (hb1.mono HB0.out.size)); clear hb1; go_wp2_with fail; refine (HPx.out w1 HB1'.out).mono ?_; rintro e w5 ⟨rfl, hb5⟩; have HB5 := hide (HB1.out.trans (hb5.mono HB1.out.size)); have d1 := HD1.out w5 (HB1'.out.trans (hb5.mono HB1'.out.size)); clear hb5 HPx HB1 HB1' HS HD1
       go_wp2_with (at_builtin; refine Ow.wpList_app rfl (.tmp 36) (.tmp 38) 158 rfl Tryz.underlying158 hi1 hz0 hz1 hz2 (by decide) Hr.shp_int rfl (Ow.OwnX.nil _ w0.heap.size _ _ _) rfl (Hr.row_one (sz := 1) (heap_alloc_new w5 (.cells #[.int .i64 j] 3)) rfl) ?c1 (by decide) ?c2 ?_)
       case c1 => simp
       case c2 => simp; have := HB5.out.size; omega
       · intro v' w10 hown hgrow
         have hb10 := Ow.bel_grown (Ow.OwnX.nil (w5.alloc (.cells #[.int .i64 j] 3)) w0.heap.size 3 1 Hr.IntX) (by simp; have := HB5.out.size; omega) hgrow
         have HW := hide ((HB5.out.trans ((Below.refl _ _).alloc HB5.out.size _)).trans hb10); have HO : Hid (Ow.OwnX w10 w0.heap.size 3 1 Hr.IntX v' s0) := hide (by rw [hs0]; exact hown)
         have HSl : Hid (s0.length <= 1) := hide (by simp [hs0])
         obtain ⟨wa, wc, rfl⟩ := hown.shape; clear hown hgrow hb10 HB5 d1 hs0 hif hif' hjm hjm'; have e3 := HC.out w10 HW.out 3; simp at e3; go_wp2_with fail
         go_loopw [6, 43] (fun lv i wr => ∃ (k : Nat) (r acc : List Nat), k <= q /\ i = .int .i64 k /\ Hid (Below w0.heap.size w0 wr) /\ Hid (Ow.OwnX wr w0.heap.size 3 1 Hr.IntX lv acc) /\ Hid (Hr.ifsL l (c.ifaces.take k) = some r) /\ Hid (r.length = k) /\ Hid (acc = s0 ++ r)) (fun lv i _ => q - (intOf i).toNat)
         case atStart => exact ⟨0, [], s0, Nat.zero_le _, rfl, HW, HO, hide rfl, hide rfl, hide (by simp)⟩
         case round =>
          obtain ⟨k, r, acc, hk, rfl, HBr, HOr, HF, hrk, hacc⟩ := hrel; have hmax : (q : Int) <= 1000 := by omega
          have HBw := hide (HB0.out.trans (HBr.out.mono HB0.out.size)); obtain ⟨la, lc, rfl⟩ := HOr.out.shape; by_cases hlt : k < q
          · obtain ⟨x, hx⟩ : ∃ x, c.ifaces[k]? = some x := ⟨c.ifaces[k]'(by rw [<- HQ.out]; exact hlt), List.getElem?_eq_getElem _⟩
            obtain ⟨g1, o1, rfl, ys1, ⟨rfl, _⟩, hc1⟩ := Hr.row_at HN.out hx; have r0 := hc1 wr HBw.out 0 _ rfl; simp only [Nat.mul_one, Nat.add_zero] at r0; clear hc1; have HPx := hide (HP.out x); have HST := hide (Hr.ifsL_step (l := l) hx); have hlt' : (k : Int) < (q : Int) := by omega
            cases hp : Hr.placeL l x with
            | none =>
              have HR : Hid (Hr.upsL l c = none) := hide (by
               have h1 := HST.out; rw [HF.out, Hr.upL_none hp] at h1; have h2 := Hr.ifsL_take h1
               unfold Hr.upsL; rw [hS.out]; simp only; rw [h2]; rfl)
              rw [hp] at HPx; simp only [Hr.pairP] at HPx; clear hp hx HST HF; generalize (⟨x.toArray⟩ : ByteArray) = xb at *
              go_wp2_with fail; refine (HPx.out _ HBw.out).mono ?_; rintro e w5 ⟨rfl, hb5⟩; have HB5 := hide (HBw.out.trans (hb5.mono HBw.out.size)); clear hb5 HPx; go_wp2_with fail; refine bodyPost_ret (v := .tuple #[.slice none 0 0, .bool false]) (by simp [results, Tryz.results96, go_sem]) rfl ?_
              rw [HR.out]; exact ⟨⟨_, rfl, Ow.OwnX.nil _ _ _ _ _⟩, HB5.out⟩
            | some j =>
              obtain ⟨d, hd, _⟩ := Hr.placeL_lt hp; have hjm : j < m := by rw [HM.out]; exact (List.getElem?_eq_some_iff.1 hd).1
              have HU := hide (Hr.upL_some (b := true) hp hd); obtain ⟨g2, o2, eg2, ys2, w2', hc2⟩ := Hr.row_at H.out hd; cases eg2; rw [hp] at HPx; simp only [Hr.pairP] at HPx
              have HD1 : Hid (∀ wx, Below w.heap.size w wx -> wx.cell? ⟨g2, o2 + j * 6 + 1, none⟩ = some (.bool d.iface)) := hide fun wx hb => by
               obtain ⟨_, _, _, _, _, _, rfl⟩ := Hr.at_c w2'; exact hc2 wx hb 1 _ rfl
              have HDa : Hid (∀ wx, Below w.heap.size w wx -> ∃ va1 vd1 va2 vd2 va3 vd3, wx.cell? ⟨g2, o2 + j * 6, none⟩ = some (.string ⟨d.name.toArray⟩) /\ wx.cell? ⟨g2, o2 + j * 6 + 1, none⟩ = some (.bool d.iface) /\ wx.cell? ⟨g2, o2 + j * 6 + 2, none⟩ = some (.string ⟨d.super.toArray⟩) /\ wx.cell? ⟨g2, o2 + j * 6 + 3, none⟩ = some (.slice va1 d.ifaces.length vd1) /\ wx.cell? ⟨g2, o2 + j * 6 + 4, none⟩ = some (.slice va2 d.fields.length vd2) /\ wx.cell? ⟨g2, o2 + j * 6 + 5, none⟩ = some (.slice va3 d.methods.length vd3)) := hide fun wx hb => by
               obtain ⟨va1, vd1, va2, vd2, va3, vd3, rfl⟩ := Hr.at_c w2'; exact ⟨va1, vd1, va2, vd2, va3, vd3, hc2 wx hb 0 _ rfl, hc2 wx hb 1 _ rfl, hc2 wx hb 2 _ rfl, hc2 wx hb 3 _ rfl, hc2 wx hb 4 _ rfl, hc2 wx hb 5 _ rfl⟩
              clear hc2 w2' hp hd hx; generalize (⟨x.toArray⟩ : ByteArray) = xb at *
              have hjm' : (j : Int) < (m : Int) := by omega
              have hm1 : (m : Int) <= 1000 := by omega
              by_cases hif : d.iface = true
              · have HR : Hid (Hr.ifsL l (c.ifaces.take (k + 1)) = some (r ++ [j])) := hide (by rw [HST.out, HF.out, HU.out, hif]; rfl)
                rw [hif] at HD1 HDa; clear HST HF HU; go_wp2_with fail; refine (HPx.out _ HBw.out).mono ?_; rintro e w5 ⟨rfl, hb5⟩; have HB5 := hide (HBr.out.trans (hb5.mono HBr.out.size)); have HO5 := hide (HOr.out.on hb5 fun _ _ h => h); have d1 := HD1.out w5 (HBw.out.trans (hb5.mono HBw.out.size)); clear hb5 HPx HBw HBr HOr
                go_wp2_with (at_builtin; refine Ow.wpList_app rfl (.tmp 63) (.tmp 65) 158 rfl Tryz.underlying158 hi1 hz0 hz1 hz2 (by decide) Hr.shp_int rfl ((HO5.out).on ((Below.refl _ _).alloc (Nat.le_refl _) (.cells #[.int .i64 j] 3)) fun _ _ h => h) rfl (Hr.row_one (sz := 1) (heap_alloc_new w5 (.cells #[.int .i64 j] 3)) rfl) ?c1 (by decide) ?c2 ?_)
                case c1 => have := HSl.out; have := hrk.out; have := hacc.out; subst this; simp; omega
                case c2 => simp; have := HB5.out.size; omega
                · intro v' w10 hown hgrow
                  have hb10 := Ow.bel_grown ((HO5.out).on ((Below.refl _ _).alloc (Nat.le_refl _) (.cells #[.int .i64 j] 3)) fun _ _ h => h) (by simp; have := HB5.out.size; omega) hgrow
                  have HB10 := hide ((HB5.out.trans ((Below.refl _ _).alloc HB5.out.size _)).trans hb10); have HO10 := hide hown; clear hown hgrow hb10 HB5 HO5 d1; go_wp2_with fail
                  go_roundw
                  case rel => first | exact ⟨k + 1, r ++ [j], acc ++ [j], by omega, by go_num, HB10, HO10, HR, hide (by have := hrk.out; simp; omega), hide (by rw [hacc.out, List.append_assoc])⟩ | ((repeat apply Exists.intro); exact ⟨⟨k + 1, r ++ [j], acc ++ [j], by omega, by go_num, HB10, HO10, HR, hide (by have := hrk.out; simp; omega), hide (by rw [hacc.out, List.append_assoc])⟩, rfl⟩)
                  case measure => simp [intOf]; omega
              · have hif' : d.iface = false := by simpa using hif
                have HR : Hid (Hr.upsL l c = none) := hide (by
                 have h1 := HST.out; rw [HF.out, HU.out, if_neg hif] at h1; have h2 := Hr.ifsL_take h1
                 unfold Hr.upsL; rw [hS.out]; simp only; rw [h2]; rfl)
                rw [hif'] at HD1 HDa; clear HST HF HU; go_wp2_with fail; refine (HPx.out _ HBw.out).mono ?_; rintro e w5 ⟨rfl, hb5⟩; have HB5 := hide (HBw.out.trans (hb5.mono HBw.out.size)); have d1 := HD1.out w5 (HBw.out.trans (hb5.mono HBw.out.size)); clear hb5 HPx HBw HBr HOr; go_wp2_with fail; refine bodyPost_ret (v := .tuple #[.slice none 0 0, .bool false]) (by simp [results, Tryz.results96, go_sem]) rfl ?_
                rw [HR.out]; exact ⟨⟨_, rfl, Ow.OwnX.nil _ _ _ _ _⟩, HB5.out⟩
          · have HR : Hid (Hr.upsL l c = some (s0 ++ r)) := hide (by
             have h1 := HF.out; rw [List.take_of_length_le (by rw [<- HQ.out]; omega)] at h1
             unfold Hr.upsL; rw [hS.out]; simp only; rw [h1]; rfl)
            have hnl : ¬ ((k : Int) < (q : Int)) := by omega
            clear HF; go_wp2_with fail; refine bodyPost_ret (v := .tuple #[.slice la acc.length lc, .bool true]) (by simp [results, Tryz.results96, go_sem]) rfl ?_
            rw [HR.out, <- hacc.out]; exact ⟨⟨_, rfl, HOr.out.low HB0.out.size fun _ _ h => h⟩, HBw.out⟩
namespace Hr
def M (ms : List Bool) (j : Nat) : Prop := ms[j]? = some true
def unm (ms : List Bool) : Nat := ms.countP fun b => !b
structure Inv (up : List (List Nat)) (n a : Nat) (ms : List Bool) (rs : List Nat) : Prop where
 far : ∀ j, M ms j -> Far up a j
 org : ∀ r ∈ rs, r = a \/ M ms r
 fin : ∀ x, (x = a \/ M ms x) -> x ∈ rs \/ ∀ y, Step up x y -> M ms y
 len : ms.length = n
 low : ∀ r ∈ rs, r < n
 few : rs.length + unm ms <= n + 1
structure Mid (up : List (List Nat)) (n a f : Nat) (u : List Nat) (k : Nat) (ms : List Bool) (rs : List Nat) : Prop where
 far : ∀ j, M ms j -> Far up a j
 org : ∀ r ∈ rs, r = a \/ M ms r
 fin : ∀ x, (x = a \/ M ms x) -> x ∈ rs \/ x = f \/ ∀ y, Step up x y -> M ms y
 don : ∀ y ∈ u.take k, M ms y
 frm : f = a \/ M ms f
 len : ms.length = n
 low : ∀ r ∈ rs, r < n
 few : rs.length + unm ms <= n + 1
theorem unm_rep (n : Nat) : unm (List.replicate n false) = n := by unfold unm; rw [List.countP_replicate]; rfl
theorem Inv.start (up : List (List Nat)) (n a : Nat) (h : a < n) : Inv up n a (List.replicate n false) [a] where
 far := by intro j hj; unfold M at hj; rw [List.getElem?_replicate] at hj; split at hj <;> cases hj
 org := by intro r hr; simp at hr; exact .inl hr
 fin := by
  intro x hx
  rcases hx with rfl | hx
  · exact .inl (by simp)
  · unfold M at hx; rw [List.getElem?_replicate] at hx; split at hx <;> cases hx
 len := by simp
 low := by intro r hr; simp at hr; omega
 few := by rw [unm_rep]; simp; omega
theorem Inv.stop {up : List (List Nat)} {n a : Nat} {ms : List Bool} (h : Inv up n a ms []) (j : Nat) : M ms j ↔ Far up a j := by
 refine ⟨h.far j, fun hf => ?_⟩
 have key : ∀ x, (x = a \/ M ms x) -> ∀ y, Step up x y -> M ms y := fun x hx => by
  rcases h.fin x hx with h | h
  · cases h
  · exact h
 refine Far.ind (C := fun i j => i = a -> M ms j) (fun s e => key a (.inl rfl) _ (e ▸ s)) (fun _ s ih e => key _ (.inr (ih e)) _ s) hf rfl
theorem Inv.pop {up : List (List Nat)} {n a f : Nat} {ms : List Bool} {rs : List Nat} (u : List Nat) (h : Inv up n a ms (rs ++ [f])) : Mid up n a f u 0 ms rs where
 far := h.far
 org := fun r hr => h.org r (List.mem_append_left _ hr)
 fin := by
  intro x hx
  rcases h.fin x hx with h | h
  · rcases List.mem_append.1 h with h | h
    · exact .inl h
    · exact .inr (.inl (by simpa using h))
  · exact .inr (.inr h)
 don := by intro y hy; simp at hy
 frm := h.org f (by simp)
 len := h.len
 low := fun r hr => h.low r (List.mem_append_left _ hr)
 few := by have := h.few; simp at this; omega
theorem Mid.stop {up : List (List Nat)} {n a f : Nat} {u : List Nat} {k : Nat} {ms : List Bool} {rs : List Nat} (h : Mid up n a f u k ms rs) (hu : up[f]? = some u) (hk : u.length <= k) : Inv up n a ms rs where
 far := h.far
 org := h.org
 fin := by
  intro x hx
  rcases h.fin x hx with h1 | rfl | h1
  · exact .inl h1
  · refine .inr fun y ⟨u', hu', hy⟩ => ?_
    rw [hu] at hu'; cases hu'; exact h.don y (by rw [List.take_of_length_le hk]; exact hy)
  · exact .inr h1
 len := h.len
 low := h.low
 few := h.few
theorem Mid.skip {up : List (List Nat)} {n a f : Nat} {u : List Nat} {k : Nat} {ms : List Bool} {rs : List Nat} {y : Nat} (h : Mid up n a f u k ms rs) (hy : u[k]? = some y) (hm : M ms y) : Mid up n a f u (k + 1) ms rs where
 far := h.far
 org := h.org
 fin := h.fin
 don := by
  intro z hz; rw [List.take_add_one, hy] at hz
  rcases List.mem_append.1 hz with hz | hz
  · exact h.don z hz
  · simp at hz; subst hz; exact hm
 frm := h.frm
 len := h.len
 low := h.low
 few := h.few
theorem M_set {ms : List Bool} {y : Nat} (hy : y < ms.length) (j : Nat) : M (ms.set y true) j ↔ j = y \/ M ms j := by
 unfold M; rw [List.getElem?_set]; by_cases e : y = j
 · subst e; simp [hy]
 · simp [e]; intro h; exact absurd h.symm e
theorem unm_set : ∀ {ms : List Bool} {y : Nat}, y < ms.length -> ¬ M ms y -> unm ms = unm (ms.set y true) + 1
 | [], _, h, _ => absurd h (Nat.not_lt_zero _)
 | b :: ms, 0, _, h => by
   cases b with
   | true => exact absurd rfl h
   | false => simp [unm]
 | b :: ms, y + 1, h, hm => by
   have := unm_set (ms := ms) (y := y) (by simpa using h) (by simpa [M] using hm)
   unfold unm at *
   rw [List.set_cons_succ, List.countP_cons, List.countP_cons]; omega
theorem Mid.push {up : List (List Nat)} {n a f : Nat} {u : List Nat} {k : Nat} {ms : List Bool} {rs : List Nat} {y : Nat} (h : Mid up n a f u k ms rs) (hu : up[f]? = some u) (hy : u[k]? = some y) (hn : y < n) (hm : ¬ M ms y) : Mid up n a f u (k + 1) (ms.set y true) (rs ++ [y]) := by
 have hl : y < ms.length := by rw [h.len]; exact hn
 have hs : Step up f y := ⟨u, hu, List.mem_of_getElem? hy⟩; refine ⟨?_, ?_, ?_, ?_, ?_, by simpa using h.len, ?_, ?_⟩
 · intro j hj
   rcases (M_set hl j).1 hj with rfl | hj
   · rcases h.frm with rfl | h1
     · exact .one hs
     · exact .more (h.far _ h1) hs
   · exact h.far j hj
 · intro r hr
   rcases List.mem_append.1 hr with hr | hr
   · rcases h.org r hr with h1 | h1
     · exact .inl h1
     · exact .inr ((M_set hl r).2 (.inr h1))
   · simp at hr; subst hr; exact .inr ((M_set hl r).2 (.inl rfl))
 · intro x hx
   by_cases hxy : x = y
   · exact .inl (by simp [hxy])
   · have hx' : x = a \/ M ms x := by
      rcases hx with hx | hx
      · exact .inl hx
      · rcases (M_set hl x).1 hx with h1 | h1
        · exact absurd h1 hxy
        · exact .inr h1
     rcases h.fin x hx' with h1 | h1 | h1
     · exact .inl (List.mem_append_left _ h1)
     · exact .inr (.inl h1)
     · exact .inr (.inr fun z hz => (M_set hl z).2 (.inr (h1 z hz)))
 · intro z hz
   rw [List.take_add_one, hy] at hz
   rcases List.mem_append.1 hz with hz | hz
   · exact (M_set hl z).2 (.inr (h.don z hz))
   · simp at hz; subst hz; exact (M_set hl z).2 (.inl rfl)
 · rcases h.frm with h1 | h1
   · exact .inl h1
   · exact .inr ((M_set hl f).2 (.inr h1))
 · intro r hr
   rcases List.mem_append.1 hr with hr | hr
   · exact h.low r hr
   · simp at hr; subst hr; exact hn
 · have h1 := h.few
   have h2 := unm_set hl hm; simp; omega
def stepB (x : List Bool × List Nat) (y : Nat) : List Bool × List Nat := if x.1[y]? = some true then x else (x.1.set y true, x.2 ++ [y])
def goB (up : List (List Nat)) : Nat -> List Bool -> List Nat -> List Bool
 | 0, ms, _ => ms
 | n + 1, ms, rs => match rs.getLast? with
   | none => ms
   | some f => goB up n (((up[f]?).getD []).foldl stepB (ms, rs.dropLast)).1 (((up[f]?).getD []).foldl stepB (ms, rs.dropLast)).2
theorem fold_mid {up : List (List Nat)} {n a f : Nat} {u : List Nat} (hu : up[f]? = some u) (hl : ∀ k ∈ u, k < n) : ∀ (k : Nat) (ms : List Bool) (rs : List Nat), k <= u.length -> Mid up n a f u k ms rs -> Mid up n a f u u.length ((u.drop k).foldl stepB (ms, rs)).1 ((u.drop k).foldl stepB (ms, rs)).2 := by
 intro k
 induction hd : u.length - k generalizing k with
 | zero =>
   intro ms rs hk h; obtain rfl : k = u.length := by omega
   rw [List.drop_length]; exact h
 | succ d ih =>
   intro ms rs hk h; have hlt : k < u.length := by omega
   have hg : u[k]? = some u[k] := List.getElem?_eq_getElem hlt; rw [List.drop_eq_getElem_cons hlt, List.foldl_cons]; unfold stepB; by_cases hm : ms[u[k]]? = some true
   · rw [if_pos hm]; exact ih (k + 1) (by omega) ms rs (by omega) (h.skip hg hm)
   · rw [if_neg hm]; exact ih (k + 1) (by omega) _ _ (by omega) (h.push hu hg (hl _ (List.getElem_mem hlt)) hm)
theorem goB_inv {up : List (List Nat)} {n a : Nat} (hn : up.length = n) (hl : ∀ u ∈ up, ∀ k ∈ u, k < n) : ∀ (d : Nat) (ms : List Bool) (rs : List Nat), rs.length + unm ms <= d -> Inv up n a ms rs -> ∀ j, M (goB up d ms rs) j ↔ Far up a j := by
 intro d
 induction d with
 | zero =>
   intro ms rs hd h j; obtain rfl : rs = [] := List.length_eq_zero_iff.1 (by omega)
   exact h.stop j
 | succ d ih =>
   intro ms rs hd h j; unfold goB
   rcases List.eq_nil_or_concat rs with rfl | ⟨r0, f, rfl⟩
   · exact h.stop j
   · rw [List.concat_eq_append] at h hd ⊢
     rw [List.getLast?_concat]; simp only [List.dropLast_concat]; have hf : f < up.length := by rw [hn]; exact h.low f (by simp)
     have hu : up[f]? = some up[f] := List.getElem?_eq_getElem hf; rw [hu, Option.getD_some]; have hm := fold_mid hu (hl _ (List.getElem_mem hf)) 0 ms r0 (Nat.zero_le _) (h.pop _); rw [List.drop_zero] at hm; refine ih _ _ ?_ (hm.stop hu (Nat.le_refl _)) j
     have hc : ∀ (u : List Nat) (x : List Bool × List Nat), (∀ k ∈ u, k < x.1.length) -> (u.foldl stepB x).2.length + unm (u.foldl stepB x).1 = x.2.length + unm x.1 := by
      intro u
      induction u with
      | nil => intro x _; rfl
      | cons y u ih =>
        intro x hx; rw [List.foldl_cons]; unfold stepB; by_cases hm : x.1[y]? = some true
        · rw [if_pos hm]; exact ih x fun k hk => hx k (by simp [hk])
        · rw [if_neg hm]
          have h1 := unm_set (hx y (by simp)) hm
          have h2 := ih (x.1.set y true, x.2 ++ [y]) fun k hk => by simpa using hx k (by simp [hk])
          unfold stepB at h2; rw [h2]; simp; omega
     rw [hc _ _ (fun k hk => by show k < ms.length; rw [h.len]; exact hl _ (List.getElem_mem hf) k hk)]
     show r0.length + unm ms <= d; simp at hd; omega
def farB (up : List (List Nat)) (i j : Nat) : Bool := decide (i < up.length) && (goB up (up.length + 1) (List.replicate up.length false) [i])[j]? == some true
theorem farB_iff {up : List (List Nat)} (hl : ∀ u ∈ up, ∀ k ∈ u, k < up.length) (i j : Nat) : farB up i j = true ↔ Far up i j := by
 unfold farB; by_cases hi : i < up.length
 · have := goB_inv rfl hl (up.length + 1) (List.replicate up.length false) [i] (by rw [unm_rep]; simp; omega) (Inv.start up _ i hi) j
   unfold M at this; simp only [hi, decide_true, Bool.true_and, beq_iff_eq]; exact this
 · simp only [hi, decide_false, Bool.false_and]
   refine ⟨fun h => (Bool.noConfusion h), fun h => ?_⟩; refine absurd (Far.ind (C := fun i _ => i < up.length) (fun ⟨u, hu, _⟩ => (List.getElem?_eq_some_iff.1 hu).1) (fun _ _ ih => ih) h) hi
def ringB (up : List (List Nat)) : Bool := (List.range up.length).any fun i => farB up i i
theorem ringB_iff {up : List (List Nat)} (hl : ∀ u ∈ up, ∀ k ∈ u, k < up.length) : ringB up = true ↔ Ring up := by
 unfold ringB Ring; simp only [List.any_eq_true, List.mem_range]; constructor
 · rintro ⟨i, _, h⟩; exact ⟨i, (farB_iff hl i i).1 h⟩
 · rintro ⟨i, h⟩
   exact ⟨i, Far.ind (C := fun i _ => i < up.length) (fun ⟨u, hu, _⟩ => (List.getElem?_eq_some_iff.1 hu).1) (fun _ _ ih => ih) h, (farB_iff hl i i).2 h⟩
def errL (cs : List Pp.XCls) : Int := if Pp.progB cs = true then (if oneB (allL cs) = true then (match growL (allL cs) (allL cs) with | none => 5 | some up => if ringB up = true then 7 else 0) else 6) else 4
theorem grow_low {l : List Pp.XCls} {up : List (List Nat)} (h : growL l l = some up) : ∀ u ∈ up, ∀ k ∈ u, k < up.length := by
 intro u hu k hk; rw [growL_len h]; exact growL_lt h u hu k hk
end Hr
namespace Ow
theorem blk_put {w : World} {b : Nat} {c : Array Value} {t : TypeId} {f : Nat × Nat} (h : w.heap[b]? = some (.cells c t f)) (k : Nat) (u : Value) : (w.setCell ⟨b, k, none⟩ u).heap[b]? = some (.cells (c.setIfInBounds k u) t f) := by
 have hlt := lt_of_blk h; have h' : w.heap[b] = .cells c t f := by simpa [Array.getElem?_eq_getElem hlt] using h
 show (w.heap.modify b _)[b]? = _; rw [Array.getElem?_eq_getElem (by simpa using hlt), Array.getElem_modify_self, h']
 rfl
theorem bel_set (w : World) (n k : Nat) (u : Value) : Below n w (w.setCell ⟨n, k, none⟩ u) := (Below.refl n w).setCell (Nat.le_refl n) _
theorem row_at {α : Type} {W : World} {sz : Nat} {P : α -> List Value -> Prop} {a : Option Addr} {n c : Nat} {l : List α} (h : RowX W sz P (.slice a n c) l) {k : Nat} {x : α} (hx : l[k]? = some x) : ∃ b o, a = some ⟨b, o, none⟩ /\ ∃ ys, P x ys /\ ∀ wx, Below W.heap.size W wx -> ∀ (j : Nat) (u : Value), ys[j]? = some u -> wx.cell? ⟨b, o + k * sz + j, none⟩ = some u := by
 obtain ⟨a', c', e, hc, h⟩ := h; injection e with e1 e2 e3; subst e1
 rcases h with rfl | ⟨b, o, rfl, hlt, hr⟩
 · simp at hx
 · obtain ⟨ys, h1, h2⟩ := hr k x hx
   exact ⟨b, o, rfl, ys, h1, fun wx hb j u hj => (hb.cell (by exact hlt)).trans (h2 j u hj)⟩
theorem row_one {α : Type} {P : α -> List Value -> Prop} {w : World} {ys : List Value} {x : α} {t : TypeId} {sz : Nat} (h : P x ys) : RowX (w.alloc (.cells ys.toArray t)) sz P (.slice (some ⟨w.heap.size, 0, none⟩) 1 1) [x] := by
 refine ⟨_, 1, rfl, Nat.le_refl _, .inr ⟨_, _, rfl, by simp, fun k y hk => ?_⟩⟩
 have hb : (w.alloc (.cells ys.toArray t)).heap[w.heap.size]? = some (.cells ys.toArray t (0, 0)) := heap_alloc_new w _; cases k with
 | zero =>
   simp at hk; subst hk; refine ⟨ys, h, fun j u hj => ?_⟩; rw [cell_box hb]
   simpa using hj
 | succ k => simp at hk
theorem sets7 {w : World} {n : Nat} {t : TypeId} {v5 u0 u1 u2 u3 u4 u5 : Value} (h0 : Ty w n t) (h1 : Ty w (n + 1) t) :
 Kx t w (((((((w.setCell ⟨n, 5, none⟩ v5).setCell ⟨n + 1, 0, none⟩ u0).setCell ⟨n + 1, 1, none⟩ u1).setCell ⟨n + 1, 2, none⟩ u2).setCell ⟨n + 1, 3, none⟩ u3).setCell ⟨n + 1, 4, none⟩ u4).setCell ⟨n + 1, 5, none⟩ u5) /\
 Below n w (((((((w.setCell ⟨n, 5, none⟩ v5).setCell ⟨n + 1, 0, none⟩ u0).setCell ⟨n + 1, 1, none⟩ u1).setCell ⟨n + 1, 2, none⟩ u2).setCell ⟨n + 1, 3, none⟩ u3).setCell ⟨n + 1, 4, none⟩ u4).setCell ⟨n + 1, 5, none⟩ u5) := by
 have key : ∀ (g k : Nat) (u : Value) (x : World), n <= g -> Ty x g t -> (Ty x n t /\ Ty x (n + 1) t /\ Kx t w x /\ Below n w x) -> (Ty (x.setCell ⟨g, k, none⟩ u) n t /\ Ty (x.setCell ⟨g, k, none⟩ u) (n + 1) t /\ Kx t w (x.setCell ⟨g, k, none⟩ u) /\ Below n w (x.setCell ⟨g, k, none⟩ u)) := fun g k u x hg ht h => ⟨h.1.set _ _ _, h.2.1.set _ _ _, h.2.2.1.trans (Kx.set ht k u), h.2.2.2.trans ((Below.refl _ _).setCell hg _)⟩; have a0 : Ty w n t /\ Ty w (n + 1) t /\ Kx t w w /\ Below n w w := ⟨h0, h1, Kx.refl _ _, Below.refl _ _⟩; have a3 := key n 5 v5 _ (Nat.le_refl _) a0.1 a0; have a4 := key (n + 1) 0 u0 _ (Nat.le_succ _) a3.2.1 a3; have a5 := key (n + 1) 1 u1 _ (Nat.le_succ _) a4.2.1 a4; have a6 := key (n + 1) 2 u2 _ (Nat.le_succ _) a5.2.1 a5; have a7 := key (n + 1) 3 u3 _ (Nat.le_succ _) a6.2.1 a6; have a8 := key (n + 1) 4 u4 _ (Nat.le_succ _) a7.2.1 a7; have a9 := key (n + 1) 5 u5 _ (Nat.le_succ _) a8.2.1 a8; exact ⟨a9.2.2.1, a9.2.2.2⟩
end Ow
theorem TwinClass_any (m : Pp.XCls) (ys : List Value) (w : World) (h : ClsX w m ys) (hl : Pp.LtC m) :
 Calls Tryz.prog 32 #[.agg ys.toArray] w fun e w' => ∃ ys', e = .returned (.agg ys'.toArray) /\ Ow.ClsO w' w.heap.size m ys' /\ Below w.heap.size w w' := by
 obtain ⟨vp, vc, vk, rfl, p1, i1, k1, z1⟩ := h; obtain ⟨j0, hj, hj0, hj1, hj2⟩ := Ow.info_of Ow.i_str; obtain ⟨k0, hk, hk0, hk1, hk2⟩ := Ow.info_of Ow.i_fld; obtain ⟨t0, ht, ht0, ht1, ht2⟩ := Ow.info_of Ow.i_mth; have HZ := hide z1; have HL := hide hl.1; have HLm := hide hl.2.2.2; have HI := hide (fun w' (hb : Below w.heap.size w w') => p1.on hb fun _ _ h => h); have HK := hide (fun w' (hb : Below w.heap.size w w') => i1.on hb fun _ _ h => h); have HT := hide k1; obtain ⟨pa, pc, rfl, _⟩ := p1.len; obtain ⟨ia, ic, rfl, _⟩ := i1.len; obtain ⟨ka, kc, rfl, _⟩ := k1.len; clear p1 i1 k1 z1 hl; simp only [clsXL, List.toArray]; go_enter Tryz.func32, Tryz.ntmps32; go_wp2_with fail; have hx0 := Ow.blk_alloc2a w (.cells #[.string ⟨m.name.toArray⟩, .bool m.iface, .string ⟨m.super.toArray⟩, .slice pa m.ifaces.length pc, .slice ia m.fields.length ic, .slice ka m.methods.length kc] 59) (.cells #[.string ⟨#[]⟩, .bool false, .string ⟨#[]⟩, .slice none 0 0, .slice none 0 0, .slice none 0 0] 59); have hx1 := Ow.blk_alloc2b w (.cells #[.string ⟨m.name.toArray⟩, .bool m.iface, .string ⟨m.super.toArray⟩, .slice pa m.ifaces.length pc, .slice ia m.fields.length ic, .slice ka m.methods.length kc] 59) (.cells #[.string ⟨#[]⟩, .bool false, .string ⟨#[]⟩, .slice none 0 0, .slice none 0 0, .slice none 0 0] 59); have HB0 := hide (Ow.bel_alloc2 w (.cells #[.string ⟨m.name.toArray⟩, .bool m.iface, .string ⟨m.super.toArray⟩, .slice pa m.ifaces.length pc, .slice ia m.fields.length ic, .slice ka m.methods.length kc] 59) (.cells #[.string ⟨#[]⟩, .bool false, .string ⟨#[]⟩, .slice none 0 0, .slice none 0 0, .slice none 0 0] 59)); have hsz0 : w.heap.size + 1 < ((w.alloc (.cells #[.string ⟨m.name.toArray⟩, .bool m.iface, .string ⟨m.super.toArray⟩, .slice pa m.ifaces.length pc, .slice ia m.fields.length ic, .slice ka m.methods.length kc] 59)).alloc (.cells #[.string ⟨#[]⟩, .bool false, .string ⟨#[]⟩, .slice none 0 0, .slice none 0 0, .slice none 0 0] 59)).heap.size := by simp
 generalize ((w.alloc (.cells #[.string ⟨m.name.toArray⟩, .bool m.iface, .string ⟨m.super.toArray⟩, .slice pa m.ifaces.length pc, .slice ia m.fields.length ic, .slice ka m.methods.length kc] 59)).alloc (.cells #[.string ⟨#[]⟩, .bool false, .string ⟨#[]⟩, .slice none 0 0, .slice none 0 0, .slice none 0 0] 59)) = w0 at *
 have HC : Hid (∀ wx, Below w0.heap.size w0 wx -> wx.heap[w.heap.size]? = some (.cells #[.string ⟨m.name.toArray⟩, .bool m.iface, .string ⟨m.super.toArray⟩, .slice pa m.ifaces.length pc, .slice ia m.fields.length ic, .slice ka m.methods.length kc] 59 (0, 0)) /\ wx.heap[w.heap.size + 1]? = some (.cells #[.string ⟨#[]⟩, .bool false, .string ⟨#[]⟩, .slice none 0 0, .slice none 0 0, .slice none 0 0] 59 (0, 0))) := hide fun wx hb => ⟨(hb.block w.heap.size (by omega)).trans hx0, (hb.block (w.heap.size + 1) hsz0).trans hx1⟩
 have HD : Hid (Below w0.heap.size w0 w0.drew) := hide (Below.drew (Below.refl _ _)); clear hx0 hx1 hsz0; have c3 : w0.cell? ⟨w.heap.size, 3, none⟩ = some (.slice pa m.ifaces.length pc) := cell_box (HC.out w0 (Below.refl _ _)).1 3; have c4 : w0.cell? ⟨w.heap.size, 4, none⟩ = some (.slice ia m.fields.length ic) := cell_box (HC.out w0 (Below.refl _ _)).1 4
 go_region_law (first
  | (refine Ow.step_app rfl (.tmp 7) (.tmp 9) 55 rfl Tryz.underlying55 hj hj0 hj1 hj2 (by decide) Ow.shp_str (by first | rfl | simp [Act.eval, Act.put]) (Ow.OwnX.nil w0.drew w0.drew.heap.size 9 1 StrX) (by first | rfl | simp [Act.eval, Act.put]) (HI.out w0.drew (HB0.out.trans (HD.out.mono HB0.out.size))) (by have := HL.out.2.2.1; simp; omega) (by decide) (Nat.le_refl _) ?_
     intro v6 w6 ho6 hg6; have HO6 := hide ho6; have H6 := hide (Ow.bel_grown (Ow.OwnX.nil w0.drew w0.drew.heap.size 9 1 StrX) (Nat.le_refl _) hg6); have HB6 := hide (HD.out.trans (H6.out.mono HD.out.size)); obtain ⟨a6, n6, rfl⟩ := ho6.shape; have c64 : w6.cell? ⟨w.heap.size, 4, none⟩ = some (.slice ia m.fields.length ic) := cell_box (HC.out w6 HB6.out).1 4
     clear ho6 hg6)
  | (refine Ow.step_app rfl (.tmp 11) (.tmp 13) 56 rfl Tryz.underlying56 hk hk0 hk1 hk2 (by decide) Ow.shp_fld (by first | rfl | simp [Act.eval, Act.put]) (Ow.OwnX.nil w6 w6.heap.size 72 4 FldX) (by first | rfl | simp [Act.eval, Act.put]) (HK.out w6 (HB0.out.trans (HB6.out.mono HB0.out.size))) (by have := HL.out.1; simp; omega) (by decide) (Nat.le_refl _) ?_
     intro v7 w7 ho7 hg7; have HO7 := hide ho7; have H7 := hide (Ow.bel_grown (Ow.OwnX.nil w6 w6.heap.size 72 4 FldX) (Nat.le_refl _) hg7); have HB7 := hide (HB6.out.trans (H7.out.mono HB6.out.size)); obtain ⟨a7, n7, rfl⟩ := ho7.shape; have d3 : w7.cell? ⟨w.heap.size, 3, none⟩ = some (.slice pa m.ifaces.length pc) := cell_box (HC.out w7 HB7.out).1 3; have d4 : w7.cell? ⟨w.heap.size, 4, none⟩ = some (.slice ia m.fields.length ic) := cell_box (HC.out w7 HB7.out).1 4; have f3 := Ow.fz_blk (HC.out w7 HB7.out).1 3; have f4 := Ow.fz_blk (HC.out w7 HB7.out).1 4
     clear ho7 hg7))
 all_goals
  have hE0 : w7.heap[w.heap.size]? = some (.cells #[.string ⟨m.name.toArray⟩, .bool m.iface, .string ⟨m.super.toArray⟩, .slice pa m.ifaces.length pc, .slice ia m.fields.length ic, .slice ka m.methods.length kc] 59 (0, 0)) := (HC.out w7 HB7.out).1; have hE1 := (HC.out w7 HB7.out).2; have hF0 : ((w7.setCell ⟨w.heap.size, 3, none⟩ (.slice a6 m.ifaces.length n6)).setCell ⟨w.heap.size, 4, none⟩ (.slice a7 m.fields.length n7)).heap[w.heap.size]? = some (.cells #[.string ⟨m.name.toArray⟩, .bool m.iface, .string ⟨m.super.toArray⟩, .slice a6 m.ifaces.length n6, .slice a7 m.fields.length n7, .slice ka m.methods.length kc] 59 (0, 0)) := Ow.blk_put (Ow.blk_put hE0 3 _) 4 _
  have hF1 : ((w7.setCell ⟨w.heap.size, 3, none⟩ (.slice a6 m.ifaces.length n6)).setCell ⟨w.heap.size, 4, none⟩ (.slice a7 m.fields.length n7)).heap[w.heap.size + 1]? = some (.cells #[.string ⟨#[]⟩, .bool false, .string ⟨#[]⟩, .slice none 0 0, .slice none 0 0, .slice none 0 0] 59 (0, 0)) := by
   rw [Below.heap_setCell _ _ _ _ (by simp), Below.heap_setCell _ _ _ _ (by simp)]; exact hE1
  have hTy : Ow.Ty w7 w.heap.size 59 := ⟨_, _, hE0⟩; have hX := (Ow.Kx.set hTy 3 (.slice a6 m.ifaces.length n6)).trans (Ow.Kx.set (hTy.set w.heap.size 3 (.slice a6 m.ifaces.length n6)) 4 (.slice a7 m.fields.length n7)); have hB8 : Below w.heap.size w7 ((w7.setCell ⟨w.heap.size, 3, none⟩ (.slice a6 m.ifaces.length n6)).setCell ⟨w.heap.size, 4, none⟩ (.slice a7 m.fields.length n7)) := (Ow.bel_set w7 w.heap.size 3 _).trans (Ow.bel_set _ w.heap.size 4 _); have hO6 := ((HO6.out.on H7.out fun _ _ h => h).kx hX (by decide) fun _ _ h => h).low (base' := w.heap.size) (Nat.le_trans HB0.out.size HD.out.size) fun _ _ h => h
  have hO7 := (HO7.out.kx hX (by decide) fun _ _ h => h).low (base' := w.heap.size) (Nat.le_trans HB0.out.size HB6.out.size) fun _ _ h => h
  have hB9 := (HB0.out.trans (HB7.out.mono HB0.out.size)).trans hB8; clear hE0 hE1 hX hTy hB8 c3 d3 d4 f3 f4 HO6 HO7 H6 H7 HB6 HB7 HC HD HB0 HI HK hj hj0 hj1 hj2 hk hk0 hk1 hk2; generalize ((w7.setCell ⟨w.heap.size, 3, none⟩ (.slice a6 m.ifaces.length n6)).setCell ⟨w.heap.size, 4, none⟩ (.slice a7 m.fields.length n7)) = w8 at *
  have HO6 := hide hO6; have HO7 := hide hO7; have HB9 := hide hB9; have HF0 := hide hF0; have HF1 := hide hF1; have hs1 : w.heap.size + 1 < w8.heap.size := Ow.lt_of_blk hF1; have c5 : w8.cell? ⟨w.heap.size, 5, none⟩ = some (.slice ka m.methods.length kc) := cell_box hF0 5; clear hO6 hO7 hB9 hF0 hF1; obtain ⟨len, hlen⟩ : ∃ n, n = m.methods.length := ⟨_, rfl⟩; have HN := hide hlen; have hl14 : len <= 14 := by rw [hlen]; exact HL.out.2.1
  rw [<- hlen] at c5 HT; clear hlen; go_wp2_with fail
  go_loopw [5, 6] (fun l i wr => ∃ k : Nat, k <= len /\ i = .int .i64 k /\ Below w8.heap.size w8 wr /\ Hid (Ow.OwnX wr w8.heap.size 39 9 (Ow.MthO wr w8.heap.size) l (m.methods.take k))) (fun l i _ => len - (intOf i).toNat)
  case atStart => exact ⟨0, Nat.zero_le _, rfl, Below.refl _ _, hide (Ow.OwnX.nil _ _ _ _ _)⟩
  case round =>
   obtain ⟨k, hk, rfl, hbel, HO⟩ := hrel; have e5 := (hbel.cell (p := ⟨w.heap.size, 5, none⟩) (by show w.heap.size < _; omega)).trans c5
   by_cases hlt : k < len
   · obtain ⟨x, hx⟩ : ∃ x, m.methods[k]? = some x := ⟨m.methods[k]'(by rw [<- HN.out]; exact hlt), List.getElem?_eq_getElem _⟩
     obtain ⟨g1, o1, rfl, ys1, w1', hc1⟩ := Ow.row_at HT.out hx; have HWr := hide (HB9.out.trans (hbel.mono HB9.out.size)); have HM := hide (fun wx (hb : Below wr.heap.size wr wx) => TwinMethod_any x ys1 wx (w1'.on (HWr.out.trans (hb.mono HWr.out.size))) (HLm.out x (List.mem_of_getElem? hx))); have HCx := hide (hc1 wr HWr.out); have HTk : Hid (m.methods.take (k + 1) = m.methods.take k ++ [x]) := hide (by rw [List.take_add_one, hx]; rfl)
     have HLn : Hid ((m.methods.take k).length = k) := hide (by rw [List.length_take, <- HN.out]; omega)
     obtain ⟨vp1, vc1, vk1, rfl, x1, x2, x3, _⟩ := w1'; obtain ⟨va1, vd1, rfl, _⟩ := x1.len; obtain ⟨va2, vd2, rfl, _⟩ := x2.len; obtain ⟨va3, vd3, rfl, _⟩ := x3.len; have r0 := HCx.out 0 _ rfl; have r1 := HCx.out 1 _ rfl; have r2 := HCx.out 2 _ rfl; have r3 := HCx.out 3 _ rfl; have r4 := HCx.out 4 _ rfl; have r5 := HCx.out 5 _ rfl; have r6 := HCx.out 6 _ rfl; have r7 := HCx.out 7 _ rfl; have r8 := HCx.out 8 _ rfl; rw [Nat.add_zero] at r0; generalize List.take k m.methods = acc at *
     obtain ⟨la, lc, rfl⟩ := HO.out.shape; have HBl := hide hbel; have hlt' : (k : Int) < (len : Int) := by omega
     have hDr : Hid (Below wr.heap.size wr wr.drew) := hide (Below.drew (Below.refl _ _)); clear hc1 hx x1 x2 x3 hbel HCx; simp only [mthXL] at HM; go_wp2_with fail; refine (HM.out _ (Below.refl _ _)).mono ?_; rintro e w9 ⟨ys', rfl, ho9, hb9⟩; obtain ⟨wp, wc, wk, rfl, q1, q2, q3, q4⟩ := ho9; have hMO : Ow.MthO w9 wr.heap.size x (mthXL x wp wc wk) := ⟨wp, wc, wk, rfl, q1, q2, q3, q4⟩; have hA : Below wr.heap.size wr (w9.alloc (.cells (mthXL x wp wc wk).toArray 39)) := hb9.trans (((Below.refl _ _).alloc (Nat.le_refl _) _).mono hb9.size); have HR1 : Hid (RowX (w9.alloc (.cells (mthXL x wp wc wk).toArray 39)) 9 (Ow.MthO (w9.alloc (.cells (mthXL x wp wc wk).toArray 39)) w8.heap.size) (.slice (some ⟨w9.heap.size, 0, none⟩) 1 1) [x]) := hide (Ow.row_one (hMO.on ((Below.refl _ _).alloc (Nat.le_refl _) _) HBl.out.size)); have HO1 : Hid (Ow.OwnX (w9.alloc (.cells (mthXL x wp wc wk).toArray 39)) w8.heap.size 39 9 (Ow.MthO (w9.alloc (.cells (mthXL x wp wc wk).toArray 39)) w8.heap.size) (.slice la acc.length lc) acc) := hide (HO.out.on hA fun _ _ h => h.on hA (Nat.le_refl _)); have HS1 : Hid (w8.heap.size <= (w9.alloc (.cells (mthXL x wp wc wk).toArray 39)).heap.size) := hide (Nat.le_trans HBl.out.size hA.size); have HA := hide hA; obtain ⟨ua1, ud1, rfl⟩ := q1.shape; obtain ⟨ua2, ud2, rfl⟩ := q2.shape; obtain ⟨ua3, ud3, rfl⟩ := q3.shape; clear hMO q1 q2 q3 q4 hb9 hA HM r0 r1 r2 r3 r4 r5 r6 r7 r8 e5 c5; simp only [mthXL] at HR1 HO1 HS1 HA ⊢
     go_wp2_with (at_builtin; refine Ow.wpList_app rfl (.tmp 24) (.tmp 31) 57 rfl Tryz.underlying57 ht ht0 ht1 ht2 (by decide) Ow.shp_mth rfl HO1.out rfl HR1.out ?c1 (by decide) HS1.out ?_)
     case c1 => have := HLn.out; simp; omega
     · intro v' w10 hown hgrow
       have hkx := Ow.kx_grown HO1.out hgrow; have hb10 := Ow.bel_grown HO1.out HS1.out hgrow
       have HO10 : Hid (Ow.OwnX w10 w8.heap.size 39 9 (Ow.MthO w10 w8.heap.size) v' (m.methods.take (k + 1))) := hide (by
        rw [HTk.out]
        exact hown.low (Nat.le_refl _) fun _ _ h => h.kx hkx (by decide) (by decide) (by decide))
       have HB10 := hide (HBl.out.trans ((HA.out.mono HBl.out.size).trans hb10)); clear hown hgrow hkx hb10 HO1 HR1 HA HS1 HTk; go_wp2_with fail
       go_roundw
       case rel => exact ⟨k + 1, by omega, by go_num, HB10.out, HO10⟩
       case measure => simp [intOf]; omega
   · obtain ⟨la, lc, rfl⟩ := HO.out.shape
     have HOe : Hid (Ow.OwnX wr w8.heap.size 39 9 (Ow.MthO wr w8.heap.size) (.slice la (List.take k m.methods).length lc) m.methods) := hide (by
      have := HO.out; rw [List.take_of_length_le (l := m.methods) (i := k) (by rw [<- HN.out]; omega)] at this ⊢
      exact this)
     generalize (List.take k m.methods).length = nl at *
     have hG0 := (hbel.block w.heap.size (by omega)).trans HF0.out
     have hG1 := (hbel.block (w.heap.size + 1) hs1).trans HF1.out; have g0 : wr.cell? ⟨w.heap.size, 0, none⟩ = some (.string ⟨m.name.toArray⟩) := cell_box hG0 0; have g1 : wr.cell? ⟨w.heap.size, 1, none⟩ = some (.bool m.iface) := cell_box hG0 1; have g2 : wr.cell? ⟨w.heap.size, 2, none⟩ = some (.string ⟨m.super.toArray⟩) := cell_box hG0 2; have g3 : wr.cell? ⟨w.heap.size, 3, none⟩ = some (.slice a6 m.ifaces.length n6) := cell_box hG0 3; have g4 : wr.cell? ⟨w.heap.size, 4, none⟩ = some (.slice a7 m.fields.length n7) := cell_box hG0 4; have p5 := Ow.fz_blk hG0 5; have u0 : wr.cell? ⟨w.heap.size + 1, 0, none⟩ = some (.string ⟨#[]⟩) := cell_box hG1 0; have u1 : wr.cell? ⟨w.heap.size + 1, 1, none⟩ = some (.bool false) := cell_box hG1 1; have u2 : wr.cell? ⟨w.heap.size + 1, 2, none⟩ = some (.string ⟨#[]⟩) := cell_box hG1 2; have u3 : wr.cell? ⟨w.heap.size + 1, 3, none⟩ = some (.slice none 0 0) := cell_box hG1 3; have u4 : wr.cell? ⟨w.heap.size + 1, 4, none⟩ = some (.slice none 0 0) := cell_box hG1 4; have u5 : wr.cell? ⟨w.heap.size + 1, 5, none⟩ = some (.slice none 0 0) := cell_box hG1 5; have q0 := Ow.fz_blk hG1 0; have q1 := Ow.fz_blk hG1 1; have q2 := Ow.fz_blk hG1 2; have q3 := Ow.fz_blk hG1 3; have q4 := Ow.fz_blk hG1 4; have q5 := Ow.fz_blk hG1 5; have HSp := hide (Ow.sets7 (v5 := .slice la nl lc) (u0 := .string ⟨m.name.toArray⟩) (u1 := .bool m.iface) (u2 := .string ⟨m.super.toArray⟩) (u3 := .slice a6 m.ifaces.length n6) (u4 := .slice a7 m.fields.length n7) (u5 := .slice la nl lc) ⟨_, _, hG0⟩ ⟨_, _, hG1⟩); have HBl := hide hbel; have hnl : ¬ ((k : Int) < (len : Int)) := by omega
     clear hG0 hG1 HO hbel c5 ht ht0 ht1 ht2; go_wp2_with fail; refine bodyPost_ret (v := .agg (clsXL m (.slice a6 m.ifaces.length n6) (.slice a7 m.fields.length n7) (.slice la nl lc)).toArray) (by simp [results, Tryz.results32, go_sem, clsXL, *]) rfl ?_
     refine ⟨_, rfl, ⟨_, _, _, rfl, ?_, ?_, ?_, HZ.out⟩, (HB9.out.trans (HBl.out.mono HB9.out.size)).trans HSp.out.2⟩
     · exact (HO6.out.on HBl.out fun _ _ h => h).kx HSp.out.1 (by decide) fun _ _ h => h
     · exact (HO7.out.on HBl.out fun _ _ h => h).kx HSp.out.1 (by decide) fun _ _ h => h
     · exact (HOe.out.kx HSp.out.1 (by decide) fun _ _ h => (h.kx HSp.out.1 (by decide) (by decide) (by decide)).on (Below.refl _ _) HB9.out.size).low HB9.out.size fun _ _ h => h
end Go.Proofs.YtjlappamkfjlkaaGreatDoor
