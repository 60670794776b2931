/- What the laws of this seat lean on: 2 texts. -/
import Derived.Test.YtbbbnciejmdpfabGreatDoorPkAd
set_option maxRecDepth 100000
set_option maxHeartbeats 64000000
set_option linter.unusedVariables false
set_option linter.unusedSimpArgs false
namespace Go.Proofs.YtbbbnciejmdpfabGreatDoor
open Go.RowKit
namespace Ow
theorem blk_put {w : World} {b : Nat} {c : Array Value} {t : TypeId} {f : Nat × Nat} (h : w.heap[b]? = some (.cells c t f)) (k : Nat) (u : Value) : (w.setCell ⟨b, k, none⟩ u).heap[b]? = some (.cells (c.setIfInBounds k u) t f) := by
 have hlt := lt_of_blk h; have h' : w.heap[b] = .cells c t f := by simpa [Array.getElem?_eq_getElem hlt] using h
 show (w.heap.modify b _)[b]? = _; rw [Array.getElem?_eq_getElem (by simpa using hlt), Array.getElem_modify_self, h']
 rfl
theorem bel_set (w : World) (n k : Nat) (u : Value) : Below n w (w.setCell ⟨n, k, none⟩ u) := (Below.refl n w).setCell (Nat.le_refl n) _
theorem row_at {α : Type} {W : World} {sz : Nat} {P : α -> List Value -> Prop} {a : Option Addr} {n c : Nat} {l : List α} (h : RowX W sz P (.slice a n c) l) {k : Nat} {x : α} (hx : l[k]? = some x) : ∃ b o, a = some ⟨b, o, none⟩ /\ ∃ ys, P x ys /\ ∀ wx, Below W.heap.size W wx -> ∀ (j : Nat) (u : Value), ys[j]? = some u -> wx.cell? ⟨b, o + k * sz + j, none⟩ = some u := by
 obtain ⟨a', c', e, hc, h⟩ := h; injection e with e1 e2 e3; subst e1
 rcases h with rfl | ⟨b, o, rfl, hlt, hr⟩
 · simp at hx
 · obtain ⟨ys, h1, h2⟩ := hr k x hx
   exact ⟨b, o, rfl, ys, h1, fun wx hb j u hj => (hb.cell (by exact hlt)).trans (h2 j u hj)⟩
theorem row_one {α : Type} {P : α -> List Value -> Prop} {w : World} {ys : List Value} {x : α} {t : TypeId} {sz : Nat} (h : P x ys) : RowX (w.alloc (.cells ys.toArray t)) sz P (.slice (some ⟨w.heap.size, 0, none⟩) 1 1) [x] := by
 refine ⟨_, 1, rfl, Nat.le_refl _, .inr ⟨_, _, rfl, by simp, fun k y hk => ?_⟩⟩
 have hb : (w.alloc (.cells ys.toArray t)).heap[w.heap.size]? = some (.cells ys.toArray t (0, 0)) := heap_alloc_new w _; cases k with
 | zero =>
   simp at hk; subst hk; refine ⟨ys, h, fun j u hj => ?_⟩; rw [cell_box hb]
   simpa using hj
 | succ k => simp at hk
theorem sets7 {w : World} {n : Nat} {t : TypeId} {v5 u0 u1 u2 u3 u4 u5 : Value} (h0 : Ty w n t) (h1 : Ty w (n + 1) t) :
 Kx t w (((((((w.setCell ⟨n, 5, none⟩ v5).setCell ⟨n + 1, 0, none⟩ u0).setCell ⟨n + 1, 1, none⟩ u1).setCell ⟨n + 1, 2, none⟩ u2).setCell ⟨n + 1, 3, none⟩ u3).setCell ⟨n + 1, 4, none⟩ u4).setCell ⟨n + 1, 5, none⟩ u5) /\
 Below n w (((((((w.setCell ⟨n, 5, none⟩ v5).setCell ⟨n + 1, 0, none⟩ u0).setCell ⟨n + 1, 1, none⟩ u1).setCell ⟨n + 1, 2, none⟩ u2).setCell ⟨n + 1, 3, none⟩ u3).setCell ⟨n + 1, 4, none⟩ u4).setCell ⟨n + 1, 5, none⟩ u5) := by
 have key : ∀ (g k : Nat) (u : Value) (x : World), n <= g -> Ty x g t -> (Ty x n t /\ Ty x (n + 1) t /\ Kx t w x /\ Below n w x) -> (Ty (x.setCell ⟨g, k, none⟩ u) n t /\ Ty (x.setCell ⟨g, k, none⟩ u) (n + 1) t /\ Kx t w (x.setCell ⟨g, k, none⟩ u) /\ Below n w (x.setCell ⟨g, k, none⟩ u)) := fun g k u x hg ht h => ⟨h.1.set _ _ _, h.2.1.set _ _ _, h.2.2.1.trans (Kx.set ht k u), h.2.2.2.trans ((Below.refl _ _).setCell hg _)⟩; have a0 : Ty w n t /\ Ty w (n + 1) t /\ Kx t w w /\ Below n w w := ⟨h0, h1, Kx.refl _ _, Below.refl _ _⟩; have a3 := key n 5 v5 _ (Nat.le_refl _) a0.1 a0; have a4 := key (n + 1) 0 u0 _ (Nat.le_succ _) a3.2.1 a3; have a5 := key (n + 1) 1 u1 _ (Nat.le_succ _) a4.2.1 a4; have a6 := key (n + 1) 2 u2 _ (Nat.le_succ _) a5.2.1 a5; have a7 := key (n + 1) 3 u3 _ (Nat.le_succ _) a6.2.1 a6; have a8 := key (n + 1) 4 u4 _ (Nat.le_succ _) a7.2.1 a7; have a9 := key (n + 1) 5 u5 _ (Nat.le_succ _) a8.2.1 a8; exact ⟨a9.2.2.1, a9.2.2.2⟩
end Ow
theorem TwinClass_any (m : Pp.XCls) (ys : List Value) (w : World) (h : ClsX w m ys) (hl : Pp.LtC m) :
 Calls Tryz.prog 55 #[.agg ys.toArray] w fun e w' => ∃ ys', e = .returned (.agg ys'.toArray) /\ Ow.ClsO w' w.heap.size m ys' /\ Below w.heap.size w w' := by
 obtain ⟨vp, vc, vk, rfl, p1, i1, k1, z1⟩ := h; obtain ⟨j0, hj, hj0, hj1, hj2⟩ := Ow.info_of Ow.i_str; obtain ⟨k0, hk, hk0, hk1, hk2⟩ := Ow.info_of Ow.i_fld; obtain ⟨t0, ht, ht0, ht1, ht2⟩ := Ow.info_of Ow.i_mth; have HZ := hide z1; have HL := hide hl.1; have HLm := hide hl.2.2.2; have HI := hide (fun w' (hb : Below w.heap.size w w') => p1.on hb fun _ _ h => h); have HK := hide (fun w' (hb : Below w.heap.size w w') => i1.on hb fun _ _ h => h); have HT := hide k1; obtain ⟨pa, pc, rfl, _⟩ := p1.len; obtain ⟨ia, ic, rfl, _⟩ := i1.len; obtain ⟨ka, kc, rfl, _⟩ := k1.len; clear p1 i1 k1 z1 hl; simp only [clsXL, List.toArray]; go_enter Tryz.func55, Tryz.ntmps55; go_wp2_with fail; have hx0 := Ow.blk_alloc2a w (.cells #[.string ⟨m.name.toArray⟩, .bool m.iface, .string ⟨m.super.toArray⟩, .slice pa m.ifaces.length pc, .slice ia m.fields.length ic, .slice ka m.methods.length kc] 33) (.cells #[.string ⟨#[]⟩, .bool false, .string ⟨#[]⟩, .slice none 0 0, .slice none 0 0, .slice none 0 0] 33); have hx1 := Ow.blk_alloc2b w (.cells #[.string ⟨m.name.toArray⟩, .bool m.iface, .string ⟨m.super.toArray⟩, .slice pa m.ifaces.length pc, .slice ia m.fields.length ic, .slice ka m.methods.length kc] 33) (.cells #[.string ⟨#[]⟩, .bool false, .string ⟨#[]⟩, .slice none 0 0, .slice none 0 0, .slice none 0 0] 33); have HB0 := hide (Ow.bel_alloc2 w (.cells #[.string ⟨m.name.toArray⟩, .bool m.iface, .string ⟨m.super.toArray⟩, .slice pa m.ifaces.length pc, .slice ia m.fields.length ic, .slice ka m.methods.length kc] 33) (.cells #[.string ⟨#[]⟩, .bool false, .string ⟨#[]⟩, .slice none 0 0, .slice none 0 0, .slice none 0 0] 33)); have hsz0 : w.heap.size + 1 < ((w.alloc (.cells #[.string ⟨m.name.toArray⟩, .bool m.iface, .string ⟨m.super.toArray⟩, .slice pa m.ifaces.length pc, .slice ia m.fields.length ic, .slice ka m.methods.length kc] 33)).alloc (.cells #[.string ⟨#[]⟩, .bool false, .string ⟨#[]⟩, .slice none 0 0, .slice none 0 0, .slice none 0 0] 33)).heap.size := by simp
 generalize ((w.alloc (.cells #[.string ⟨m.name.toArray⟩, .bool m.iface, .string ⟨m.super.toArray⟩, .slice pa m.ifaces.length pc, .slice ia m.fields.length ic, .slice ka m.methods.length kc] 33)).alloc (.cells #[.string ⟨#[]⟩, .bool false, .string ⟨#[]⟩, .slice none 0 0, .slice none 0 0, .slice none 0 0] 33)) = w0 at *
 have HC : Hid (∀ wx, Below w0.heap.size w0 wx -> wx.heap[w.heap.size]? = some (.cells #[.string ⟨m.name.toArray⟩, .bool m.iface, .string ⟨m.super.toArray⟩, .slice pa m.ifaces.length pc, .slice ia m.fields.length ic, .slice ka m.methods.length kc] 33 (0, 0)) /\ wx.heap[w.heap.size + 1]? = some (.cells #[.string ⟨#[]⟩, .bool false, .string ⟨#[]⟩, .slice none 0 0, .slice none 0 0, .slice none 0 0] 33 (0, 0))) := hide fun wx hb => ⟨(hb.block w.heap.size (by omega)).trans hx0, (hb.block (w.heap.size + 1) hsz0).trans hx1⟩
 have HD : Hid (Below w0.heap.size w0 w0.drew) := hide (Below.drew (Below.refl _ _)); clear hx0 hx1 hsz0; have c3 : w0.cell? ⟨w.heap.size, 3, none⟩ = some (.slice pa m.ifaces.length pc) := cell_box (HC.out w0 (Below.refl _ _)).1 3; have c4 : w0.cell? ⟨w.heap.size, 4, none⟩ = some (.slice ia m.fields.length ic) := cell_box (HC.out w0 (Below.refl _ _)).1 4
 go_region_law (first
  | (refine Ow.step_app rfl (.tmp 7) (.tmp 9) 29 rfl Tryz.underlying29 hj hj0 hj1 hj2 (by decide) Ow.shp_str (by first | rfl | simp [Act.eval, Act.put]) (Ow.OwnX.nil w0.drew w0.drew.heap.size 9 1 StrX) (by first | rfl | simp [Act.eval, Act.put]) (HI.out w0.drew (HB0.out.trans (HD.out.mono HB0.out.size))) (by have := HL.out.2.2.1; simp; omega) (by decide) (Nat.le_refl _) ?_
     intro v6 w6 ho6 hg6; have HO6 := hide ho6; have H6 := hide (Ow.bel_grown (Ow.OwnX.nil w0.drew w0.drew.heap.size 9 1 StrX) (Nat.le_refl _) hg6); have HB6 := hide (HD.out.trans (H6.out.mono HD.out.size)); obtain ⟨a6, n6, rfl⟩ := ho6.shape; have c64 : w6.cell? ⟨w.heap.size, 4, none⟩ = some (.slice ia m.fields.length ic) := cell_box (HC.out w6 HB6.out).1 4
     clear ho6 hg6)
  | (refine Ow.step_app rfl (.tmp 11) (.tmp 13) 30 rfl Tryz.underlying30 hk hk0 hk1 hk2 (by decide) Ow.shp_fld (by first | rfl | simp [Act.eval, Act.put]) (Ow.OwnX.nil w6 w6.heap.size 43 4 FldX) (by first | rfl | simp [Act.eval, Act.put]) (HK.out w6 (HB0.out.trans (HB6.out.mono HB0.out.size))) (by have := HL.out.1; simp; omega) (by decide) (Nat.le_refl _) ?_
     intro v7 w7 ho7 hg7; have HO7 := hide ho7; have H7 := hide (Ow.bel_grown (Ow.OwnX.nil w6 w6.heap.size 43 4 FldX) (Nat.le_refl _) hg7); have HB7 := hide (HB6.out.trans (H7.out.mono HB6.out.size)); obtain ⟨a7, n7, rfl⟩ := ho7.shape; have d3 : w7.cell? ⟨w.heap.size, 3, none⟩ = some (.slice pa m.ifaces.length pc) := cell_box (HC.out w7 HB7.out).1 3; have d4 : w7.cell? ⟨w.heap.size, 4, none⟩ = some (.slice ia m.fields.length ic) := cell_box (HC.out w7 HB7.out).1 4; have f3 := Ow.fz_blk (HC.out w7 HB7.out).1 3; have f4 := Ow.fz_blk (HC.out w7 HB7.out).1 4
     clear ho7 hg7))
 all_goals
  have hE0 : w7.heap[w.heap.size]? = some (.cells #[.string ⟨m.name.toArray⟩, .bool m.iface, .string ⟨m.super.toArray⟩, .slice pa m.ifaces.length pc, .slice ia m.fields.length ic, .slice ka m.methods.length kc] 33 (0, 0)) := (HC.out w7 HB7.out).1; have hE1 := (HC.out w7 HB7.out).2; have hF0 : ((w7.setCell ⟨w.heap.size, 3, none⟩ (.slice a6 m.ifaces.length n6)).setCell ⟨w.heap.size, 4, none⟩ (.slice a7 m.fields.length n7)).heap[w.heap.size]? = some (.cells #[.string ⟨m.name.toArray⟩, .bool m.iface, .string ⟨m.super.toArray⟩, .slice a6 m.ifaces.length n6, .slice a7 m.fields.length n7, .slice ka m.methods.length kc] 33 (0, 0)) := Ow.blk_put (Ow.blk_put hE0 3 _) 4 _
  have hF1 : ((w7.setCell ⟨w.heap.size, 3, none⟩ (.slice a6 m.ifaces.length n6)).setCell ⟨w.heap.size, 4, none⟩ (.slice a7 m.fields.length n7)).heap[w.heap.size + 1]? = some (.cells #[.string ⟨#[]⟩, .bool false, .string ⟨#[]⟩, .slice none 0 0, .slice none 0 0, .slice none 0 0] 33 (0, 0)) := by
   rw [Below.heap_setCell _ _ _ _ (by simp), Below.heap_setCell _ _ _ _ (by simp)]; exact hE1
  have hTy : Ow.Ty w7 w.heap.size 33 := ⟨_, _, hE0⟩; have hX := (Ow.Kx.set hTy 3 (.slice a6 m.ifaces.length n6)).trans (Ow.Kx.set (hTy.set w.heap.size 3 (.slice a6 m.ifaces.length n6)) 4 (.slice a7 m.fields.length n7)); have hB8 : Below w.heap.size w7 ((w7.setCell ⟨w.heap.size, 3, none⟩ (.slice a6 m.ifaces.length n6)).setCell ⟨w.heap.size, 4, none⟩ (.slice a7 m.fields.length n7)) := (Ow.bel_set w7 w.heap.size 3 _).trans (Ow.bel_set _ w.heap.size 4 _); have hO6 := ((HO6.out.on H7.out fun _ _ h => h).kx hX (by decide) fun _ _ h => h).low (base' := w.heap.size) (Nat.le_trans HB0.out.size HD.out.size) fun _ _ h => h
  have hO7 := (HO7.out.kx hX (by decide) fun _ _ h => h).low (base' := w.heap.size) (Nat.le_trans HB0.out.size HB6.out.size) fun _ _ h => h
  have hB9 := (HB0.out.trans (HB7.out.mono HB0.out.size)).trans hB8; clear hE0 hE1 hX hTy hB8 c3 d3 d4 f3 f4 HO6 HO7 H6 H7 HB6 HB7 HC HD HB0 HI HK hj hj0 hj1 hj2 hk hk0 hk1 hk2; generalize ((w7.setCell ⟨w.heap.size, 3, none⟩ (.slice a6 m.ifaces.length n6)).setCell ⟨w.heap.size, 4, none⟩ (.slice a7 m.fields.length n7)) = w8 at *
  have HO6 := hide hO6; have HO7 := hide hO7; have HB9 := hide hB9; have HF0 := hide hF0; have HF1 := hide hF1; have hs1 : w.heap.size + 1 < w8.heap.size := Ow.lt_of_blk hF1; have c5 : w8.cell? ⟨w.heap.size, 5, none⟩ = some (.slice ka m.methods.length kc) := cell_box hF0 5; clear hO6 hO7 hB9 hF0 hF1; obtain ⟨len, hlen⟩ : ∃ n, n = m.methods.length := ⟨_, rfl⟩; have HN := hide hlen; have hl14 : len <= 14 := by rw [hlen]; exact HL.out.2.1
  rw [<- hlen] at c5 HT; clear hlen; go_wp2_with fail
  go_loopw [5, 6] (fun l i wr => ∃ k : Nat, k <= len /\ i = .int .i64 k /\ Below w8.heap.size w8 wr /\ Hid (Ow.OwnX wr w8.heap.size 48 9 (Ow.MthO wr w8.heap.size) l (m.methods.take k))) (fun l i _ => len - (intOf i).toNat)
  case atStart => exact ⟨0, Nat.zero_le _, rfl, Below.refl _ _, hide (Ow.OwnX.nil _ _ _ _ _)⟩
  case round =>
   obtain ⟨k, hk, rfl, hbel, HO⟩ := hrel; have e5 := (hbel.cell (p := ⟨w.heap.size, 5, none⟩) (by show w.heap.size < _; omega)).trans c5
   by_cases hlt : k < len
   · obtain ⟨x, hx⟩ : ∃ x, m.methods[k]? = some x := ⟨m.methods[k]'(by rw [<- HN.out]; exact hlt), List.getElem?_eq_getElem _⟩
     obtain ⟨g1, o1, rfl, ys1, w1', hc1⟩ := Ow.row_at HT.out hx; have HWr := hide (HB9.out.trans (hbel.mono HB9.out.size)); have HM := hide (fun wx (hb : Below wr.heap.size wr wx) => TwinMethod_any x ys1 wx (w1'.on (HWr.out.trans (hb.mono HWr.out.size))) (HLm.out x (List.mem_of_getElem? hx))); have HCx := hide (hc1 wr HWr.out); have HTk : Hid (m.methods.take (k + 1) = m.methods.take k ++ [x]) := hide (by rw [List.take_add_one, hx]; rfl)
     have HLn : Hid ((m.methods.take k).length = k) := hide (by rw [List.length_take, <- HN.out]; omega)
     obtain ⟨vp1, vc1, vk1, rfl, x1, x2, x3, _⟩ := w1'; obtain ⟨va1, vd1, rfl, _⟩ := x1.len; obtain ⟨va2, vd2, rfl, _⟩ := x2.len; obtain ⟨va3, vd3, rfl, _⟩ := x3.len; have r0 := HCx.out 0 _ rfl; have r1 := HCx.out 1 _ rfl; have r2 := HCx.out 2 _ rfl; have r3 := HCx.out 3 _ rfl; have r4 := HCx.out 4 _ rfl; have r5 := HCx.out 5 _ rfl; have r6 := HCx.out 6 _ rfl; have r7 := HCx.out 7 _ rfl; have r8 := HCx.out 8 _ rfl; rw [Nat.add_zero] at r0; generalize List.take k m.methods = acc at *
     obtain ⟨la, lc, rfl⟩ := HO.out.shape; have HBl := hide hbel; have hlt' : (k : Int) < (len : Int) := by omega
     have hDr : Hid (Below wr.heap.size wr wr.drew) := hide (Below.drew (Below.refl _ _)); clear hc1 hx x1 x2 x3 hbel HCx; simp only [mthXL] at HM; go_wp2_with fail; refine (HM.out _ (Below.refl _ _)).mono ?_; rintro e w9 ⟨ys', rfl, ho9, hb9⟩; obtain ⟨wp, wc, wk, rfl, q1, q2, q3, q4⟩ := ho9; have hMO : Ow.MthO w9 wr.heap.size x (mthXL x wp wc wk) := ⟨wp, wc, wk, rfl, q1, q2, q3, q4⟩; have hA : Below wr.heap.size wr (w9.alloc (.cells (mthXL x wp wc wk).toArray 48)) := hb9.trans (((Below.refl _ _).alloc (Nat.le_refl _) _).mono hb9.size); have HR1 : Hid (RowX (w9.alloc (.cells (mthXL x wp wc wk).toArray 48)) 9 (Ow.MthO (w9.alloc (.cells (mthXL x wp wc wk).toArray 48)) w8.heap.size) (.slice (some ⟨w9.heap.size, 0, none⟩) 1 1) [x]) := hide (Ow.row_one (hMO.on ((Below.refl _ _).alloc (Nat.le_refl _) _) HBl.out.size)); have HO1 : Hid (Ow.OwnX (w9.alloc (.cells (mthXL x wp wc wk).toArray 48)) w8.heap.size 48 9 (Ow.MthO (w9.alloc (.cells (mthXL x wp wc wk).toArray 48)) w8.heap.size) (.slice la acc.length lc) acc) := hide (HO.out.on hA fun _ _ h => h.on hA (Nat.le_refl _)); have HS1 : Hid (w8.heap.size <= (w9.alloc (.cells (mthXL x wp wc wk).toArray 48)).heap.size) := hide (Nat.le_trans HBl.out.size hA.size); have HA := hide hA; obtain ⟨ua1, ud1, rfl⟩ := q1.shape; obtain ⟨ua2, ud2, rfl⟩ := q2.shape; obtain ⟨ua3, ud3, rfl⟩ := q3.shape; clear hMO q1 q2 q3 q4 hb9 hA HM r0 r1 r2 r3 r4 r5 r6 r7 r8 e5 c5; simp only [mthXL] at HR1 HO1 HS1 HA ⊢
     go_wp2_with (at_builtin; refine Ow.wpList_app rfl (.tmp 24) (.tmp 31) 31 rfl Tryz.underlying31 ht ht0 ht1 ht2 (by decide) Ow.shp_mth rfl HO1.out rfl HR1.out ?c1 (by decide) HS1.out ?_)
     case c1 => have := HLn.out; simp; omega
     · intro v' w10 hown hgrow
       have hkx := Ow.kx_grown HO1.out hgrow; have hb10 := Ow.bel_grown HO1.out HS1.out hgrow
       have HO10 : Hid (Ow.OwnX w10 w8.heap.size 48 9 (Ow.MthO w10 w8.heap.size) v' (m.methods.take (k + 1))) := hide (by
        rw [HTk.out]
        exact hown.low (Nat.le_refl _) fun _ _ h => h.kx hkx (by decide) (by decide) (by decide))
       have HB10 := hide (HBl.out.trans ((HA.out.mono HBl.out.size).trans hb10)); clear hown hgrow hkx hb10 HO1 HR1 HA HS1 HTk; go_wp2_with fail
       go_roundw
       case rel => exact ⟨k + 1, by omega, by go_num, HB10.out, HO10⟩
       case measure => simp [intOf]; omega
   · obtain ⟨la, lc, rfl⟩ := HO.out.shape
     have HOe : Hid (Ow.OwnX wr w8.heap.size 48 9 (Ow.MthO wr w8.heap.size) (.slice la (List.take k m.methods).length lc) m.methods) := hide (by
      have := HO.out; rw [List.take_of_length_le (l := m.methods) (i := k) (by rw [<- HN.out]; omega)] at this ⊢
      exact this)
     generalize (List.take k m.methods).length = nl at *
     have hG0 := (hbel.block w.heap.size (by omega)).trans HF0.out
     have hG1 := (hbel.block (w.heap.size + 1) hs1).trans HF1.out; have g0 : wr.cell? ⟨w.heap.size, 0, none⟩ = some (.string ⟨m.name.toArray⟩) := cell_box hG0 0; have g1 : wr.cell? ⟨w.heap.size, 1, none⟩ = some (.bool m.iface) := cell_box hG0 1; have g2 : wr.cell? ⟨w.heap.size, 2, none⟩ = some (.string ⟨m.super.toArray⟩) := cell_box hG0 2; have g3 : wr.cell? ⟨w.heap.size, 3, none⟩ = some (.slice a6 m.ifaces.length n6) := cell_box hG0 3; have g4 : wr.cell? ⟨w.heap.size, 4, none⟩ = some (.slice a7 m.fields.length n7) := cell_box hG0 4; have p5 := Ow.fz_blk hG0 5; have u0 : wr.cell? ⟨w.heap.size + 1, 0, none⟩ = some (.string ⟨#[]⟩) := cell_box hG1 0; have u1 : wr.cell? ⟨w.heap.size + 1, 1, none⟩ = some (.bool false) := cell_box hG1 1; have u2 : wr.cell? ⟨w.heap.size + 1, 2, none⟩ = some (.string ⟨#[]⟩) := cell_box hG1 2; have u3 : wr.cell? ⟨w.heap.size + 1, 3, none⟩ = some (.slice none 0 0) := cell_box hG1 3; have u4 : wr.cell? ⟨w.heap.size + 1, 4, none⟩ = some (.slice none 0 0) := cell_box hG1 4; have u5 : wr.cell? ⟨w.heap.size + 1, 5, none⟩ = some (.slice none 0 0) := cell_box hG1 5; have q0 := Ow.fz_blk hG1 0; have q1 := Ow.fz_blk hG1 1; have q2 := Ow.fz_blk hG1 2; have q3 := Ow.fz_blk hG1 3; have q4 := Ow.fz_blk hG1 4; have q5 := Ow.fz_blk hG1 5; have HSp := hide (Ow.sets7 (v5 := .slice la nl lc) (u0 := .string ⟨m.name.toArray⟩) (u1 := .bool m.iface) (u2 := .string ⟨m.super.toArray⟩) (u3 := .slice a6 m.ifaces.length n6) (u4 := .slice a7 m.fields.length n7) (u5 := .slice la nl lc) ⟨_, _, hG0⟩ ⟨_, _, hG1⟩); have HBl := hide hbel; have hnl : ¬ ((k : Int) < (len : Int)) := by omega
     clear hG0 hG1 HO hbel c5 ht ht0 ht1 ht2; go_wp2_with fail; refine bodyPost_ret (v := .agg (clsXL m (.slice a6 m.ifaces.length n6) (.slice a7 m.fields.length n7) (.slice la nl lc)).toArray) (by simp [results, Tryz.results55, go_sem, clsXL, *]) rfl ?_
     refine ⟨_, rfl, ⟨_, _, _, rfl, ?_, ?_, ?_, HZ.out⟩, (HB9.out.trans (HBl.out.mono HB9.out.size)).trans HSp.out.2⟩
     · exact (HO6.out.on HBl.out fun _ _ h => h).kx HSp.out.1 (by decide) fun _ _ h => h
     · exact (HO7.out.on HBl.out fun _ _ h => h).kx HSp.out.1 (by decide) fun _ _ h => h
     · exact (HOe.out.kx HSp.out.1 (by decide) fun _ _ h => (h.kx HSp.out.1 (by decide) (by decide) (by decide)).on (Below.refl _ _) HB9.out.size).low HB9.out.size fun _ _ h => h
namespace Lx
def hd (c : Pp.XCls) : Pp.XCls := { c with fields := [], methods := [] }
def HdP (w : World) (x : Pp.XCls) (ys : List Value) : Prop := ∃ vi, ys = clsXL x vi (.slice none 0 0) (.slice none 0 0) /\ RowX w 1 StrX vi x.ifaces /\ x.fields = [] /\ x.methods = [] /\
 x.name.length <= maxLen /\ x.super.length <= maxLen /\ x.ifaces.length <= maxLen
theorem shp_hd {w : World} : Ow.Shp (HdP w) 6 := by
 rintro x ys ⟨vi, rfl, h, _⟩; obtain ⟨_, _, rfl, _⟩ := h.len; exact ⟨rfl, by intro u hu; simp [clsXL] at hu; rcases hu with rfl | rfl | rfl | rfl | rfl | rfl <;> rfl⟩
theorem row_nil {α : Type} (w : World) (sz : Nat) (P : α -> List Value -> Prop) : RowX w sz P (.slice none 0 0) ([] : List α) := ⟨none, 0, rfl, Nat.le_refl _, .inl rfl⟩
theorem HdP.x {w w' : World} {x : Pp.XCls} {ys : List Value} (h : HdP w x ys) (hb : Below w.heap.size w w') : ClsX w' x ys := by
 obtain ⟨vi, rfl, h1, h2, h3, h4, h5, h6⟩ := h; refine ⟨vi, _, _, rfl, h1.on hb fun _ _ h => h, ?_, ?_, h4, h5, h6, ?_, ?_⟩
 · rw [h2]; exact row_nil _ _ _
 · rw [h3]; exact row_nil _ _ _
 · rw [h2]; exact Nat.zero_le _
 · rw [h3]; exact Nat.zero_le _
theorem heads_prog {W w : World} {base : Nat} {v : Value} {cs : List Pp.XCls} (h : Ow.OwnX w base 33 6 (HdP W) v (cs.map hd)) (hb : Below W.heap.size W w) (hn : Pp.Light (cs.map hd)) : ProgX w v (cs.map hd) :=
 ⟨h.row shp_hd fun _ _ h => h.x hb, by have := hn.1; unfold maxLen; omega⟩
end Lx
theorem headsOf_any (cs : List Pp.XCls) (v : Value) (W w : World) (h : ProgX W v cs) (hW : Below W.heap.size W w) (hl : Pp.Light cs) :
 Calls Tryz.prog 45 #[.agg #[v]] w fun e w' => ∃ v', e = .returned (.agg #[v']) /\ Ow.OwnX w' w.heap.size 33 6 (Lx.HdP W) v' (cs.map Lx.hd) /\ Below w.heap.size w w' := by
 have HR := hide h.1; have HWb := hide hW; clear hW; have hn := hl.1; obtain ⟨pa, pc, rfl, _⟩ := h.1.len; obtain ⟨n, hn'⟩ : ∃ n, n = cs.length := ⟨_, rfl⟩; have HN := hide hn'; rw [<- hn'] at HR hn ⊢; clear h hl hn'; obtain ⟨j0, hj, hj0, hj1, hj2⟩ := Ow.info_of Ow.i_cls
 have hx0 : (((w.alloc (.cells #[.slice pa n pc] 24)).alloc (.cells #[.slice none 0 0] 24)).alloc (.cells #[.slice none 0 0] 24)).heap[w.heap.size]? = some (.cells #[.slice pa n pc] 24 (0, 0)) :=
  (((Below.refl _ _).alloc (Nat.le_refl _) _).block w.heap.size (by simp; omega)).trans (Ow.blk_alloc2a w _ _)
 have hx1 : (((w.alloc (.cells #[.slice pa n pc] 24)).alloc (.cells #[.slice none 0 0] 24)).alloc (.cells #[.slice none 0 0] 24)).heap[w.heap.size + 1]? = some (.cells #[.slice none 0 0] 24 (0, 0)) :=
  (((Below.refl _ _).alloc (Nat.le_refl _) _).block (w.heap.size + 1) (by simp)).trans (Ow.blk_alloc2b w _ _)
 have hx2 : (((w.alloc (.cells #[.slice pa n pc] 24)).alloc (.cells #[.slice none 0 0] 24)).alloc (.cells #[.slice none 0 0] 24)).heap[w.heap.size + 2]? = some (.cells #[.slice none 0 0] 24 (0, 0)) := by
  have := heap_alloc_new ((w.alloc (.cells #[.slice pa n pc] 24)).alloc (.cells #[.slice none 0 0] 24)) (.cells #[.slice none 0 0] 24)
  simpa using this
 have HB0 := hide (Ow.bel_alloc2 w (.cells #[.slice pa n pc] 24) (.cells #[.slice none 0 0] 24) |>.alloc (by simp; omega) (.cells #[.slice none 0 0] 24))
 go_enter Tryz.func45, Tryz.ntmps45; go_wp2_with fail; generalize (((w.alloc (.cells #[.slice pa n pc] 24)).alloc (.cells #[.slice none 0 0] 24)).alloc (.cells #[.slice none 0 0] 24)) = w0 at *
 have hs2 : w.heap.size + 2 < w0.heap.size := Ow.lt_of_blk hx2; have HC : Hid (∀ wx, Below (w.heap.size + 2) w0 wx -> wx.heap[w.heap.size]? = some (.cells #[.slice pa n pc] 24 (0, 0)) /\ wx.heap[w.heap.size + 1]? = some (.cells #[.slice none 0 0] 24 (0, 0))) := hide fun wx hb => ⟨(hb.block _ (by omega)).trans hx0, (hb.block _ (by omega)).trans hx1⟩
 have HX2 := hide hx2; clear hx1 hx2
 go_loopw [9] (fun i wr => ∃ (k : Nat) (acc : List Pp.XCls) (la : Option Addr) (lc : Nat), k <= n /\ i = .int .i64 k /\ Hid (Below (w.heap.size + 2) w0 wr) /\ Hid (wr.heap[w.heap.size + 2]? = some (.cells #[.slice la acc.length lc] 24 (0, 0))) /\ Hid (Ow.OwnX wr w0.heap.size 33 6 (Lx.HdP W) (.slice la acc.length lc) acc) /\ Hid (acc = (cs.take k).map Lx.hd)) (fun i _ => n - (intOf i).toNat)
 case atStart => exact ⟨0, [], none, 0, Nat.zero_le _, rfl, hide (Below.refl _ _), HX2, hide (Ow.OwnX.nil _ _ _ _ _), hide rfl⟩
 case round =>
  obtain ⟨k, acc, la, lc, hk, rfl, HBr, HTr, HO, HAc⟩ := hrel; clear HX2 hx0; have hsr := HBr.out.size; by_cases hlt : k < n
  · obtain ⟨x, hx⟩ : ∃ x, cs[k]? = some x := ⟨cs[k]'(by rw [<- HN.out]; exact hlt), List.getElem?_eq_getElem _⟩
    obtain ⟨g1, o1, eg1, ys1, w1', hc1⟩ := Ow.row_at HR.out hx; subst eg1; have HBw := hide (HB0.out.trans (HBr.out.mono (by omega)))
    have HCx := hide (hc1 wr (HWb.out.trans (HBw.out.mono HWb.out.size))); have HTk : Hid (acc ++ [Lx.hd x] = (cs.take (k + 1)).map Lx.hd) := hide (by rw [HAc.out, List.take_add_one, hx]; simp)
    have HLn : Hid (acc.length <= 14) := hide (by rw [HAc.out, List.length_map, List.length_take]; omega)
    obtain ⟨vp, vc, vk, rfl, x1, x2, x3, x4, x5, x6, _⟩ := w1'; have HHd : Hid (Lx.HdP W (Lx.hd x) (clsXL (Lx.hd x) vp (.slice none 0 0) (.slice none 0 0))) := hide ⟨vp, rfl, x1, rfl, rfl, x4, x5, x6⟩; obtain ⟨va1, vd1, rfl, _⟩ := x1.len; obtain ⟨va2, vd2, rfl, _⟩ := x2.len; obtain ⟨va3, vd3, rfl, _⟩ := x3.len; have r0 := HCx.out 0 _ rfl; have r1 := HCx.out 1 _ rfl; have r2 := HCx.out 2 _ rfl; have r3 := HCx.out 3 _ rfl; have r4 := HCx.out 4 _ rfl; have r5 := HCx.out 5 _ rfl; rw [Nat.add_zero] at r0; have hlt' : (k : Int) < (n : Int) := by omega
    have hn1 : (n : Int) <= 14 := by omega
    have t0 := cell_box HTr.out 0; obtain ⟨ln, hln⟩ : ∃ q, q = acc.length := ⟨_, rfl⟩; have HLN := hide hln; rw [<- hln] at t0; clear hc1 hx x1 x2 x3 HCx HAc hln; have hA : Below wr.heap.size wr (wr.alloc (.cells (clsXL (Lx.hd x) (.slice va1 x.ifaces.length vd1) (.slice none 0 0) (.slice none 0 0)).toArray 33)) := (Below.refl _ _).alloc (Nat.le_refl _) _; have hB : Below wr.heap.size wr ((wr.alloc (.cells (clsXL (Lx.hd x) (.slice va1 x.ifaces.length vd1) (.slice none 0 0) (.slice none 0 0)).toArray 33)).alloc (.cells (clsXL (Lx.hd x) (.slice va1 x.ifaces.length vd1) (.slice none 0 0) (.slice none 0 0)).toArray 33)) := hA.alloc (by simp) _
    have tA := cell_box ((hA.block _ (Ow.lt_of_blk HTr.out)).trans HTr.out) 0; have HTA := hide ((hB.block _ (Ow.lt_of_blk HTr.out)).trans HTr.out); have HR1 := hide (Ow.row_one (w := (wr.alloc (.cells (clsXL (Lx.hd x) (.slice va1 x.ifaces.length vd1) (.slice none 0 0) (.slice none 0 0)).toArray 33))) (t := 33) (sz := 6) HHd.out); have HO1 : Hid (Ow.OwnX ((wr.alloc (.cells (clsXL (Lx.hd x) (.slice va1 x.ifaces.length vd1) (.slice none 0 0) (.slice none 0 0)).toArray 33)).alloc (.cells (clsXL (Lx.hd x) (.slice va1 x.ifaces.length vd1) (.slice none 0 0) (.slice none 0 0)).toArray 33)) w0.heap.size 33 6 (Lx.HdP W) (.slice la ln lc) acc) := hide (by rw [HLN.out]; exact HO.out.on hB fun _ _ h => h)
    have hpt : (wr.alloc (.cells (clsXL (Lx.hd x) (.slice va1 x.ifaces.length vd1) (.slice none 0 0) (.slice none 0 0)).toArray 33)).heap.size = wr.heap.size + 1 := by simp
    rw [hpt] at HR1; clear hpt; have hszA := hide (Nat.le_trans hsr hB.size); have HA := hide (HBr.out.trans (hB.mono (by omega)))
    rw [<- HLN.out] at tA HTA; clear hA hB t0; simp only [clsXL, Lx.hd] at HR1 HO1 HA HTA tA hszA
    go_wp2_with (at_builtin; refine Ow.wpList_app rfl (.tmp 16) (.tmp 18) 22 rfl Tryz.underlying22 hj hj0 hj1 hj2 (by decide) Lx.shp_hd rfl HO1.out rfl HR1.out ?c1 (by decide) hszA.out ?_)
    case c1 => have := HLn.out; simp; omega
    · intro v' w10 hown hgrow
      obtain ⟨xa, xc, hv'⟩ := hown.shape; obtain ⟨nr, hnr⟩ : ∃ q, q = (acc ++ [Lx.hd x]).length := ⟨_, rfl⟩; have HNr := hide hnr; have hv2 : v' = .slice xa nr xc := by rw [hnr]; exact hv'
      clear hnr hv'; subst hv2; have hkx := Ow.kx_grown HO1.out hgrow; have HB10 := hide (HA.out.trans ((Ow.bel_grown HO1.out hszA.out hgrow).mono (by omega)))
      have HO10 : Hid (Ow.OwnX w10 w0.heap.size 33 6 (Lx.HdP W) (.slice xa nr xc) (acc ++ [Lx.hd x])) := hide hown; have HT10 := hide (hkx.blk _ _ _ _ HTA.out (by decide))
      have f10 := Ow.fz_blk HT10.out 0; have t10 := cell_box HT10.out 0; clear hown hgrow hkx HO1 HR1 HA HTA; have hP := Ow.blk_put HT10.out 0 (.slice xa nr xc); have hK2 : Ow.Kx 24 w10 (w10.setCell ⟨w.heap.size + 2, 0, none⟩ (.slice xa nr xc)) := Ow.Kx.set ⟨_, _, HT10.out⟩ 0 (.slice xa nr xc); have HBz := hide (HB10.out.trans ((Below.refl _ _).setCell (p := ⟨w.heap.size + 2, 0, none⟩) (Nat.le_refl _) (.slice xa nr xc))); have HTz : Hid ((w10.setCell ⟨w.heap.size + 2, 0, none⟩ (.slice xa nr xc)).heap[w.heap.size + 2]? = some (.cells #[.slice xa nr xc] 24 (0, 0))) := hide hP; have HOz := hide (HO10.out.kx hK2 (by decide) fun _ _ h => h)
      clear hP hK2 tA; go_wp2_with fail
      go_roundw
      case rel =>
       refine ⟨k + 1, acc ++ [Lx.hd x], xa, xc, by omega, by go_num, ?_, ?_, ?_, HTk⟩
       · exact HBz
       · rw [<- HNr.out]; exact HTz
       · rw [<- HNr.out]; exact HOz
      case measure => simp [intOf]; omega
  · have HE : Hid (acc = cs.map Lx.hd) := hide (by rw [HAc.out, List.take_of_length_le (by rw [<- HN.out]; omega)])
    have hnl : ¬ ((k : Int) < (n : Int)) := by omega
    have t0 := cell_box HTr.out 0; have s0 := cell_box (HC.out wr HBr.out).2 0; have f0 := Ow.fz_blk (HC.out wr HBr.out).2 0; have hw0 : w.heap.size <= w0.heap.size := by omega
    have hB : Below w.heap.size w wr := HB0.out.trans (HBr.out.mono (by omega))
    have HPt := hide (hB.trans ((Below.refl _ _).setCell (p := ⟨w.heap.size + 1, 0, none⟩) (Nat.le_succ _) (.slice la acc.length lc))); have hK : Ow.Kx 24 wr (wr.setCell ⟨w.heap.size + 1, 0, none⟩ (.slice la acc.length lc)) := Ow.Kx.set ⟨_, _, (HC.out wr HBr.out).2⟩ 0 (.slice la acc.length lc); have HRz := hide ((HO.out.kx hK (by decide) fun _ _ h => h).low (base' := w.heap.size) hw0 fun _ _ h => h)
    clear hB hK HAc HTr HBr HC HO; obtain ⟨m, hm⟩ : ∃ q, q = acc.length := ⟨_, rfl⟩; have HMx := hide hm; rw [<- hm] at t0 HPt HRz; clear hm; go_wp2_with fail; refine bodyPost_ret (v := .agg #[.slice la m lc]) (by simp [results, Tryz.results45, go_sem, *]) rfl ?_
    refine ⟨_, rfl, ?_, HPt.out⟩; have := HRz.out; rw [HE.out] at this; exact this
end Go.Proofs.YtbbbnciejmdpfabGreatDoor
