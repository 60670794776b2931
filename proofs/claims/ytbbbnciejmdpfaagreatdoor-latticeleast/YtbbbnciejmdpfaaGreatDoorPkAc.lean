/- What the laws of this seat lean on: 6 texts. -/
import Derived.Test.YtbbbnciejmdpfaaGreatDoorPkAb
import Derived.LaidEqlPtr
import Derived.Lib.AppendZerosOnto
import Derived.Lib.SliceRun
set_option maxRecDepth 100000
set_option maxHeartbeats 64000000
set_option linter.unusedVariables false
set_option linter.unusedSimpArgs false
namespace Go.Proofs.YtbbbnciejmdpfaaGreatDoor
open Go.RowKit
namespace Lx
def hd (c : Pp.XCls) : Pp.XCls := { c with fields := [], methods := [] }
def HdP (w : World) (x : Pp.XCls) (ys : List Value) : Prop := ∃ vi, ys = clsXL x vi (.slice none 0 0) (.slice none 0 0) /\ RowX w 1 StrX vi x.ifaces /\ x.fields = [] /\ x.methods = [] /\
 x.name.length <= maxLen /\ x.super.length <= maxLen /\ x.ifaces.length <= maxLen
theorem shp_hd {w : World} : Ow.Shp (HdP w) 6 := by
 rintro x ys ⟨vi, rfl, h, _⟩; obtain ⟨_, _, rfl, _⟩ := h.len; exact ⟨rfl, by intro u hu; simp [clsXL] at hu; rcases hu with rfl | rfl | rfl | rfl | rfl | rfl <;> rfl⟩
theorem row_nil {α : Type} (w : World) (sz : Nat) (P : α -> List Value -> Prop) : RowX w sz P (.slice none 0 0) ([] : List α) := ⟨none, 0, rfl, Nat.le_refl _, .inl rfl⟩
theorem HdP.x {w w' : World} {x : Pp.XCls} {ys : List Value} (h : HdP w x ys) (hb : Below w.heap.size w w') : ClsX w' x ys := by
 obtain ⟨vi, rfl, h1, h2, h3, h4, h5, h6⟩ := h; refine ⟨vi, _, _, rfl, h1.on hb fun _ _ h => h, ?_, ?_, h4, h5, h6, ?_, ?_⟩
 · rw [h2]; exact row_nil _ _ _
 · rw [h3]; exact row_nil _ _ _
 · rw [h2]; exact Nat.zero_le _
 · rw [h3]; exact Nat.zero_le _
theorem heads_prog {W w : World} {base : Nat} {v : Value} {cs : List Pp.XCls} (h : Ow.OwnX w base 42 6 (HdP W) v (cs.map hd)) (hb : Below W.heap.size W w) (hn : Pp.Light (cs.map hd)) : ProgX w v (cs.map hd) :=
 ⟨h.row shp_hd fun _ _ h => h.x hb, by have := hn.1; unfold maxLen; omega⟩
end Lx
theorem headsOf_any (cs : List Pp.XCls) (v : Value) (W w : World) (h : ProgX W v cs) (hW : Below W.heap.size W w) (hl : Pp.Light cs) :
 Calls Tryz.prog 41 #[.agg #[v]] w fun e w' => ∃ v', e = .returned (.agg #[v']) /\ Ow.OwnX w' w.heap.size 42 6 (Lx.HdP W) v' (cs.map Lx.hd) /\ Below w.heap.size w w' := by
 have HR := hide h.1; have HWb := hide hW; clear hW; have hn := hl.1; obtain ⟨pa, pc, rfl, _⟩ := h.1.len; obtain ⟨n, hn'⟩ : ∃ n, n = cs.length := ⟨_, rfl⟩; have HN := hide hn'; rw [<- hn'] at HR hn ⊢; clear h hl hn'; obtain ⟨j0, hj, hj0, hj1, hj2⟩ := Ow.info_of Ow.i_cls
 have hx0 : (((w.alloc (.cells #[.slice pa n pc] 24)).alloc (.cells #[.slice none 0 0] 24)).alloc (.cells #[.slice none 0 0] 24)).heap[w.heap.size]? = some (.cells #[.slice pa n pc] 24 (0, 0)) :=
  (((Below.refl _ _).alloc (Nat.le_refl _) _).block w.heap.size (by simp; omega)).trans (Ow.blk_alloc2a w _ _)
 have hx1 : (((w.alloc (.cells #[.slice pa n pc] 24)).alloc (.cells #[.slice none 0 0] 24)).alloc (.cells #[.slice none 0 0] 24)).heap[w.heap.size + 1]? = some (.cells #[.slice none 0 0] 24 (0, 0)) :=
  (((Below.refl _ _).alloc (Nat.le_refl _) _).block (w.heap.size + 1) (by simp)).trans (Ow.blk_alloc2b w _ _)
 have hx2 : (((w.alloc (.cells #[.slice pa n pc] 24)).alloc (.cells #[.slice none 0 0] 24)).alloc (.cells #[.slice none 0 0] 24)).heap[w.heap.size + 2]? = some (.cells #[.slice none 0 0] 24 (0, 0)) := by
  have := heap_alloc_new ((w.alloc (.cells #[.slice pa n pc] 24)).alloc (.cells #[.slice none 0 0] 24)) (.cells #[.slice none 0 0] 24)
  simpa using this
 have HB0 := hide (Ow.bel_alloc2 w (.cells #[.slice pa n pc] 24) (.cells #[.slice none 0 0] 24) |>.alloc (by simp; omega) (.cells #[.slice none 0 0] 24))
 go_enter Tryz.func41, Tryz.ntmps41; go_wp2_with fail; generalize (((w.alloc (.cells #[.slice pa n pc] 24)).alloc (.cells #[.slice none 0 0] 24)).alloc (.cells #[.slice none 0 0] 24)) = w0 at *
 have hs2 : w.heap.size + 2 < w0.heap.size := Ow.lt_of_blk hx2; have HC : Hid (∀ wx, Below (w.heap.size + 2) w0 wx -> wx.heap[w.heap.size]? = some (.cells #[.slice pa n pc] 24 (0, 0)) /\ wx.heap[w.heap.size + 1]? = some (.cells #[.slice none 0 0] 24 (0, 0))) := hide fun wx hb => ⟨(hb.block _ (by omega)).trans hx0, (hb.block _ (by omega)).trans hx1⟩
 have HX2 := hide hx2; clear hx1 hx2
 go_loopw [9] (fun i wr => ∃ (k : Nat) (acc : List Pp.XCls) (la : Option Addr) (lc : Nat), k <= n /\ i = .int .i64 k /\ Hid (Below (w.heap.size + 2) w0 wr) /\ Hid (wr.heap[w.heap.size + 2]? = some (.cells #[.slice la acc.length lc] 24 (0, 0))) /\ Hid (Ow.OwnX wr w0.heap.size 42 6 (Lx.HdP W) (.slice la acc.length lc) acc) /\ Hid (acc = (cs.take k).map Lx.hd)) (fun i _ => n - (intOf i).toNat)
 case atStart => exact ⟨0, [], none, 0, Nat.zero_le _, rfl, hide (Below.refl _ _), HX2, hide (Ow.OwnX.nil _ _ _ _ _), hide rfl⟩
 case round =>
  obtain ⟨k, acc, la, lc, hk, rfl, HBr, HTr, HO, HAc⟩ := hrel; clear HX2 hx0; have hsr := HBr.out.size; by_cases hlt : k < n
  · obtain ⟨x, hx⟩ : ∃ x, cs[k]? = some x := ⟨cs[k]'(by rw [<- HN.out]; exact hlt), List.getElem?_eq_getElem _⟩
    obtain ⟨g1, o1, eg1, ys1, w1', hc1⟩ := Ow.row_at HR.out hx; subst eg1; have HBw := hide (HB0.out.trans (HBr.out.mono (by omega)))
    have HCx := hide (hc1 wr (HWb.out.trans (HBw.out.mono HWb.out.size))); have HTk : Hid (acc ++ [Lx.hd x] = (cs.take (k + 1)).map Lx.hd) := hide (by rw [HAc.out, List.take_add_one, hx]; simp)
    have HLn : Hid (acc.length <= 14) := hide (by rw [HAc.out, List.length_map, List.length_take]; omega)
    obtain ⟨vp, vc, vk, rfl, x1, x2, x3, x4, x5, x6, _⟩ := w1'; have HHd : Hid (Lx.HdP W (Lx.hd x) (clsXL (Lx.hd x) vp (.slice none 0 0) (.slice none 0 0))) := hide ⟨vp, rfl, x1, rfl, rfl, x4, x5, x6⟩; obtain ⟨va1, vd1, rfl, _⟩ := x1.len; obtain ⟨va2, vd2, rfl, _⟩ := x2.len; obtain ⟨va3, vd3, rfl, _⟩ := x3.len; have r0 := HCx.out 0 _ rfl; have r1 := HCx.out 1 _ rfl; have r2 := HCx.out 2 _ rfl; have r3 := HCx.out 3 _ rfl; have r4 := HCx.out 4 _ rfl; have r5 := HCx.out 5 _ rfl; rw [Nat.add_zero] at r0; have hlt' : (k : Int) < (n : Int) := by omega
    have hn1 : (n : Int) <= 14 := by omega
    have t0 := cell_box HTr.out 0; obtain ⟨ln, hln⟩ : ∃ q, q = acc.length := ⟨_, rfl⟩; have HLN := hide hln; rw [<- hln] at t0; clear hc1 hx x1 x2 x3 HCx HAc hln; have hA : Below wr.heap.size wr (wr.alloc (.cells (clsXL (Lx.hd x) (.slice va1 x.ifaces.length vd1) (.slice none 0 0) (.slice none 0 0)).toArray 42)) := (Below.refl _ _).alloc (Nat.le_refl _) _; have hB : Below wr.heap.size wr ((wr.alloc (.cells (clsXL (Lx.hd x) (.slice va1 x.ifaces.length vd1) (.slice none 0 0) (.slice none 0 0)).toArray 42)).alloc (.cells (clsXL (Lx.hd x) (.slice va1 x.ifaces.length vd1) (.slice none 0 0) (.slice none 0 0)).toArray 42)) := hA.alloc (by simp) _
    have tA := cell_box ((hA.block _ (Ow.lt_of_blk HTr.out)).trans HTr.out) 0; have HTA := hide ((hB.block _ (Ow.lt_of_blk HTr.out)).trans HTr.out); have HR1 := hide (Ow.row_one (w := (wr.alloc (.cells (clsXL (Lx.hd x) (.slice va1 x.ifaces.length vd1) (.slice none 0 0) (.slice none 0 0)).toArray 42))) (t := 42) (sz := 6) HHd.out); have HO1 : Hid (Ow.OwnX ((wr.alloc (.cells (clsXL (Lx.hd x) (.slice va1 x.ifaces.length vd1) (.slice none 0 0) (.slice none 0 0)).toArray 42)).alloc (.cells (clsXL (Lx.hd x) (.slice va1 x.ifaces.length vd1) (.slice none 0 0) (.slice none 0 0)).toArray 42)) w0.heap.size 42 6 (Lx.HdP W) (.slice la ln lc) acc) := hide (by rw [HLN.out]; exact HO.out.on hB fun _ _ h => h)
    have hpt : (wr.alloc (.cells (clsXL (Lx.hd x) (.slice va1 x.ifaces.length vd1) (.slice none 0 0) (.slice none 0 0)).toArray 42)).heap.size = wr.heap.size + 1 := by simp
    rw [hpt] at HR1; clear hpt; have hszA := hide (Nat.le_trans hsr hB.size); have HA := hide (HBr.out.trans (hB.mono (by omega)))
    rw [<- HLN.out] at tA HTA; clear hA hB t0; simp only [clsXL, Lx.hd] at HR1 HO1 HA HTA tA hszA
    go_wp2_with (at_builtin; refine Ow.wpList_app rfl (.tmp 16) (.tmp 18) 22 rfl Tryz.underlying22 hj hj0 hj1 hj2 (by decide) Lx.shp_hd rfl HO1.out rfl HR1.out ?c1 (by decide) hszA.out ?_)
    case c1 => have := HLn.out; simp; omega
    · intro v' w10 hown hgrow
      obtain ⟨xa, xc, hv'⟩ := hown.shape; obtain ⟨nr, hnr⟩ : ∃ q, q = (acc ++ [Lx.hd x]).length := ⟨_, rfl⟩; have HNr := hide hnr; have hv2 : v' = .slice xa nr xc := by rw [hnr]; exact hv'
      clear hnr hv'; subst hv2; have hkx := Ow.kx_grown HO1.out hgrow; have HB10 := hide (HA.out.trans ((Ow.bel_grown HO1.out hszA.out hgrow).mono (by omega)))
      have HO10 : Hid (Ow.OwnX w10 w0.heap.size 42 6 (Lx.HdP W) (.slice xa nr xc) (acc ++ [Lx.hd x])) := hide hown; have HT10 := hide (hkx.blk _ _ _ _ HTA.out (by decide))
      have f10 := Ow.fz_blk HT10.out 0; have t10 := cell_box HT10.out 0; clear hown hgrow hkx HO1 HR1 HA HTA; have hP := Ow.blk_put HT10.out 0 (.slice xa nr xc); have hK2 : Ow.Kx 24 w10 (w10.setCell ⟨w.heap.size + 2, 0, none⟩ (.slice xa nr xc)) := Ow.Kx.set ⟨_, _, HT10.out⟩ 0 (.slice xa nr xc); have HBz := hide (HB10.out.trans ((Below.refl _ _).setCell (p := ⟨w.heap.size + 2, 0, none⟩) (Nat.le_refl _) (.slice xa nr xc))); have HTz : Hid ((w10.setCell ⟨w.heap.size + 2, 0, none⟩ (.slice xa nr xc)).heap[w.heap.size + 2]? = some (.cells #[.slice xa nr xc] 24 (0, 0))) := hide hP; have HOz := hide (HO10.out.kx hK2 (by decide) fun _ _ h => h)
      clear hP hK2 tA; go_wp2_with fail
      go_roundw
      case rel =>
       refine ⟨k + 1, acc ++ [Lx.hd x], xa, xc, by omega, by go_num, ?_, ?_, ?_, HTk⟩
       · exact HBz
       · rw [<- HNr.out]; exact HTz
       · rw [<- HNr.out]; exact HOz
      case measure => simp [intOf]; omega
  · have HE : Hid (acc = cs.map Lx.hd) := hide (by rw [HAc.out, List.take_of_length_le (by rw [<- HN.out]; omega)])
    have hnl : ¬ ((k : Int) < (n : Int)) := by omega
    have t0 := cell_box HTr.out 0; have s0 := cell_box (HC.out wr HBr.out).2 0; have f0 := Ow.fz_blk (HC.out wr HBr.out).2 0; have hw0 : w.heap.size <= w0.heap.size := by omega
    have hB : Below w.heap.size w wr := HB0.out.trans (HBr.out.mono (by omega))
    have HPt := hide (hB.trans ((Below.refl _ _).setCell (p := ⟨w.heap.size + 1, 0, none⟩) (Nat.le_succ _) (.slice la acc.length lc))); have hK : Ow.Kx 24 wr (wr.setCell ⟨w.heap.size + 1, 0, none⟩ (.slice la acc.length lc)) := Ow.Kx.set ⟨_, _, (HC.out wr HBr.out).2⟩ 0 (.slice la acc.length lc); have HRz := hide ((HO.out.kx hK (by decide) fun _ _ h => h).low (base' := w.heap.size) hw0 fun _ _ h => h)
    clear hB hK HAc HTr HBr HC HO; obtain ⟨m, hm⟩ : ∃ q, q = acc.length := ⟨_, rfl⟩; have HMx := hide hm; rw [<- hm] at t0 HPt HRz; clear hm; go_wp2_with fail; refine bodyPost_ret (v := .agg #[.slice la m lc]) (by simp [results, Tryz.results41, go_sem, *]) rfl ?_
    refine ⟨_, rfl, ?_, HPt.out⟩; have := HRz.out; rw [HE.out] at this; exact this
namespace Pp
structure Slt where
 owner : Bs
 name : Bs
 ty : Ty
def ownL (c : XCls) (st : Bool) (fs : List Fld) : List Slt := (fs.filter fun f => f.stat == st).map fun f => ⟨c.name, f.name, f.ty⟩
theorem ownL_snoc (c : XCls) (st : Bool) (fs : List Fld) (f : Fld) : ownL c st (fs ++ [f]) = ownL c st fs ++ (if f.stat = st then [⟨c.name, f.name, f.ty⟩] else []) := by
 unfold ownL; rw [List.filter_append, List.map_append]
 congr 1
 by_cases h : f.stat = st
 · simp [h]
 · simp [h]
theorem ownL_len (c : XCls) (st : Bool) (fs : List Fld) : (ownL c st fs).length <= fs.length := by
 unfold ownL; rw [List.length_map]; exact List.length_filter_le _ _
end Pp
def SltX (s : Pp.Slt) (ys : List Value) : Prop := ys = [.string ⟨s.owner.toArray⟩, .string ⟨s.name.toArray⟩, .int .i64 s.ty.kind, .string ⟨s.ty.name.toArray⟩]
theorem shp_slt : Ow.Shp SltX 4 := by rintro x ys rfl; exact ⟨rfl, by intro u hu; simp at hu; rcases hu with rfl | rfl | rfl | rfl <;> rfl⟩
def PtrX (b : Nat) (ys : List Value) : Prop := ys = [.pointer (some ⟨b, 0, none⟩)]
theorem shp_ptr : Ow.Shp PtrX 1 := by rintro x ys rfl; exact ⟨rfl, by intro u hu; simp at hu; subst hu; rfl⟩
namespace Ow
theorem info_of' {P : Program} {t : TypeId} {s z b : Nat} (h : (P.info? t).map (fun i => (i.zero.map (fun z => z.cells.size), i.size, i.bytes)) = some (some z, s, b)) : ∃ i, P.info? t = some i /\ i.zero.map (fun z => z.cells.size) = some z /\ i.size = s /\ i.bytes = b := by
 cases hi : P.info? t with
 | none => rw [hi] at h; cases h
 | some i => rw [hi] at h; simp only [Option.map_some, Option.some.injEq, Prod.mk.injEq] at h; exact ⟨i, rfl, h.1, h.2.1, h.2.2⟩
theorem row_at' {α : Type} {W : World} {sz : Nat} {P : α -> List Value -> Prop} {a : Option Addr} {n c : Nat} {l : List α} (h : RowX W sz P (.slice a n c) l) {k : Nat} {x : α} (hx : l[k]? = some x) : ∃ b o, a = some ⟨b, o, none⟩ /\ ∃ ys, P x ys /\ ∀ wx, Below W.heap.size W wx -> ∀ (j : Nat) (u : Value), ys[j]? = some u -> wx.cell? ⟨b, o + k * sz + j, none⟩ = some u := by
 obtain ⟨a', c', e, hc, h⟩ := h; injection e with e1 e2 e3; subst e1
 rcases h with rfl | ⟨b, o, rfl, hlt, hr⟩
 · simp at hx
 · obtain ⟨ys, h1, h2⟩ := hr k x hx
   exact ⟨b, o, rfl, ys, h1, fun wx hb j u hj => (hb.cell (by exact hlt)).trans (h2 j u hj)⟩
theorem row_one' {α : Type} {P : α -> List Value -> Prop} {w : World} {ys : List Value} {x : α} {t : TypeId} {sz : Nat} (h : P x ys) : RowX (w.alloc (.cells ys.toArray t)) sz P (.slice (some ⟨w.heap.size, 0, none⟩) 1 1) [x] := by
 refine ⟨_, 1, rfl, Nat.le_refl _, .inr ⟨_, _, rfl, by simp, fun k y hk => ?_⟩⟩
 have hb : (w.alloc (.cells ys.toArray t)).heap[w.heap.size]? = some (.cells ys.toArray t (0, 0)) := heap_alloc_new w _; cases k with
 | zero =>
   simp at hk; subst hk; refine ⟨ys, h, fun j u hj => ?_⟩; rw [cell_box hb]
   simpa using hj
 | succ k => simp at hk
theorem i_slot : (Tryz.prog.info? 89).map (fun i => (i.zero.map (fun z => z.cells.size), i.size, i.bytes)) = some (some 4, 4, 56) := by kernel_rfl
theorem i_tabp : (Tryz.prog.info? 126).map (fun i => (i.zero.map (fun z => z.cells.size), i.size, i.bytes)) = some (some 1, 1, 8) := by kernel_rfl
end Ow
theorem ownSlots_any (c : Pp.XCls) (ys : List Value) (st : Bool) (w : World) (h : ClsX w c ys) (hn : c.fields.length <= 100) :
 Calls Tryz.prog 145 #[.agg ys.toArray, .bool st] w fun e w' => ∃ v, e = .returned v /\ Ow.OwnX w' w.heap.size 89 4 SltX v (Pp.ownL c st c.fields) /\ Below w.heap.size w w' := by
 obtain ⟨vi, vf, vm, rfl, x1, x2, x3, _⟩ := h; have HRf := hide x2; obtain ⟨ia, ic, rfl, _⟩ := x1.len; obtain ⟨fa, fc, rfl, _⟩ := x2.len; obtain ⟨ma, mc, rfl, _⟩ := x3.len; clear x1 x2 x3; obtain ⟨n, hn'⟩ : ∃ q, q = c.fields.length := ⟨_, rfl⟩; have HN := hide hn'; rw [<- hn'] at HRf hn; simp only [clsXL]; rw [<- hn']; clear hn'; obtain ⟨NB, hNB⟩ : ∃ q : ByteArray, q = ⟨c.name.toArray⟩ := ⟨_, rfl⟩; have HNB := hide hNB; rw [<- hNB]; clear hNB; obtain ⟨j0, hj, hj0, hj1, hj2⟩ := Ow.info_of' Ow.i_slot; have HB0 := hide ((Below.refl w.heap.size w).alloc (Nat.le_refl _) (.cells #[.string NB, .bool c.iface, .string ⟨c.super.toArray⟩, .slice ia c.ifaces.length ic, .slice fa n fc, .slice ma c.methods.length mc] 42)); have hx0 := heap_alloc_new w (.cells #[.string NB, .bool c.iface, .string ⟨c.super.toArray⟩, .slice ia c.ifaces.length ic, .slice fa n fc, .slice ma c.methods.length mc] 42); go_enter Tryz.func145, Tryz.ntmps145; go_wp2_with fail; generalize w.alloc (.cells #[.string NB, .bool c.iface, .string ⟨c.super.toArray⟩, .slice ia c.ifaces.length ic, .slice fa n fc, .slice ma c.methods.length mc] 42) = w0 at *
 have HC : Hid (∀ wx, Below w0.heap.size w0 wx -> wx.cell? ⟨w.heap.size, 0, none⟩ = some (.string NB)) := hide fun wx hb => cell_box ((hb.block _ (Ow.lt_of_blk hx0)).trans hx0) 0; clear hx0
 go_loopw [5, 11] (fun l i wr => ∃ (k : Nat) (la : Option Addr) (lc : Nat) (ln : Nat), k <= n /\ i = .int .i64 k /\ l = .slice la ln lc /\ ln = (Pp.ownL c st (c.fields.take k)).length /\ Hid (Below w0.heap.size w0 wr) /\ Hid (Ow.OwnX wr w0.heap.size 89 4 SltX (.slice la ln lc) (Pp.ownL c st (c.fields.take k)))) (fun _ i _ => n - (intOf i).toNat)
 case atStart => exact ⟨0, none, 0, 0, Nat.zero_le _, rfl, rfl, rfl, hide (Below.refl _ _), hide (Ow.OwnX.nil _ _ _ _ _)⟩
 case round =>
  obtain ⟨k, la, lc, ln, hk, rfl, rfl, hln, HBr, HO⟩ := hrel; have HLn := hide hln; have hlk : ln <= 100 := by rw [hln]; have := Pp.ownL_len c st (c.fields.take k); rw [List.length_take] at this; omega
  clear hln; by_cases hlt : k < n
  · obtain ⟨f, hx⟩ : ∃ f, c.fields[k]? = some f := ⟨c.fields[k]'(by rw [<- HN.out]; exact hlt), List.getElem?_eq_getElem _⟩
    obtain ⟨g, o, eg, fs, wf, hc⟩ := Ow.row_at' HRf.out hx; subst eg
    have HTk : Hid (Pp.ownL c st (c.fields.take (k + 1)) = Pp.ownL c st (c.fields.take k) ++ (if f.stat = st then [⟨c.name, f.name, f.ty⟩] else [])) := hide (by
     rw [List.take_add_one, hx]
     exact Pp.ownL_snoc c st _ f)
    obtain ⟨fnm, ⟨fk, ftn⟩, fst⟩ := f; obtain ⟨rfl, _⟩ := wf; have HBw := HB0.out.trans (HBr.out.mono HB0.out.size); have r0 := hc wr HBw 0 _ rfl; have r1 := hc wr HBw 1 _ rfl; have r2 := hc wr HBw 2 _ rfl; have r3 := hc wr HBw 3 _ rfl; rw [Nat.add_zero] at r0; dsimp only at r0 r1 r2 r3 HTk; have hlt' : (k : Int) < (n : Int) := by omega
    clear hx hc HBw; have hA : Below wr.heap.size wr (wr.alloc (.cells #[.string ⟨fnm.toArray⟩, .int .i64 fk, .string ⟨ftn.toArray⟩, .bool fst] 52)) := (Below.refl _ _).alloc (Nat.le_refl _) _; have HBA := hide (HBr.out.trans (hA.mono HBr.out.size)); have HOA := hide (HO.out.on hA fun _ _ h => h); have hbx := heap_alloc_new wr (.cells #[.string ⟨fnm.toArray⟩, .int .i64 fk, .string ⟨ftn.toArray⟩, .bool fst] 52); have b0 := cell_box hbx 0; have b1 := cell_box hbx 1; have b2 := cell_box hbx 2; have b3 := cell_box hbx 3; have b4 := HC.out _ HBA.out; clear hA hbx; by_cases hs : fst = st
    · subst hs
      have HTk0 : Hid (Pp.ownL c fst (c.fields.take (k + 1)) = Pp.ownL c fst (c.fields.take k) ++ [⟨c.name, fnm, ⟨fk, ftn⟩⟩]) := hide (by rw [HTk.out, if_pos rfl])
      have HRo : Hid (∀ w1 : World, RowX (w1.alloc (.cells #[.string NB, .string ⟨fnm.toArray⟩, .int .i64 fk, .string ⟨ftn.toArray⟩] 89)) 4 SltX (.slice (some ⟨w1.heap.size, 0, none⟩) 1 1) [⟨c.name, fnm, ⟨fk, ftn⟩⟩]) := hide fun w1 => by
       rw [HNB.out]; exact Ow.row_one' (P := SltX) (x := ⟨c.name, fnm, ⟨fk, ftn⟩⟩) (ys := [.string ⟨c.name.toArray⟩, .string ⟨fnm.toArray⟩, .int .i64 fk, .string ⟨ftn.toArray⟩]) rfl
      have hll : (Pp.ownL c fst (c.fields.take k)).length <= 100 := by rw [<- HLn.out]; exact hlk
      have HO2 := hide (HOA.out.on (w' := (wr.alloc (.cells #[.string ⟨fnm.toArray⟩, .int .i64 fk, .string ⟨ftn.toArray⟩, .bool fst] 52)).alloc (.cells #[.string NB, .string ⟨fnm.toArray⟩, .int .i64 fk, .string ⟨ftn.toArray⟩] 89)) ((Below.refl _ _).alloc (Nat.le_refl _) _) fun _ _ h => h); have HR2 := hide (HRo.out (wr.alloc (.cells #[.string ⟨fnm.toArray⟩, .int .i64 fk, .string ⟨ftn.toArray⟩, .bool fst] 52))); have HB2 := hide (HBA.out.trans (((Below.refl _ _).alloc (Nat.le_refl _) (.cells #[.string NB, .string ⟨fnm.toArray⟩, .int .i64 fk, .string ⟨ftn.toArray⟩] 89)).mono HBA.out.size)); clear HRo HOA HBA
      go_wp2_with (at_builtin; refine Ow.wpList_app rfl (.tmp 19) (.tmp 27) 86 rfl Tryz.underlying86 hj hj0 hj1 hj2 (by decide) shp_slt (by first | rfl | simp [Act.eval, Act.put]) HO2.out (by first | rfl | simp [Act.eval, Act.put]) HR2.out (by simp; omega) (by decide) HB2.out.size ?_)
      intro v5 w5 ho5 hg5; have HB5 := hide (HB2.out.trans (Ow.bel_grown HO2.out HB2.out.size hg5)); have HO5 := hide ho5; clear ho5 hg5 HO2 HR2 HB2; obtain ⟨xa, xc, rfl⟩ := HO5.out.shape; go_wp2_with fail
      go_roundw
      case rel => exact ⟨k + 1, xa, xc, _, by omega, by go_num, rfl, by rw [HTk0.out], HB5, by rw [HTk0.out]; exact hide (by have := HO5.out; simpa using this)⟩
      case measure => simp [intOf]; omega
    · have hs' : (fst == st) = false := by simpa using hs
      have HTk0 : Hid (Pp.ownL c st (c.fields.take (k + 1)) = Pp.ownL c st (c.fields.take k)) := hide (by rw [HTk.out, if_neg hs, List.append_nil])
      clear hs; go_wp2_with fail
      go_roundw
      case rel => exact ⟨k + 1, la, lc, ln, by omega, by go_num, rfl, by rw [HTk0.out]; exact HLn.out, HBA, by rw [HTk0.out]; exact HOA⟩
      case measure => simp [intOf]; omega
  · have hkn : k = n := by omega
    subst hkn; have HE : Hid (Pp.ownL c st (c.fields.take k) = Pp.ownL c st c.fields) := hide (by rw [List.take_of_length_le (by rw [<- HN.out]; exact Nat.le_refl _)])
    have hnl : ¬ ((k : Int) < (k : Int)) := by omega
    go_wp2_with fail; go_ret; refine ⟨_, rfl, ?_, HB0.out.trans (HBr.out.mono HB0.out.size)⟩; have := HO.out.low HB0.out.size fun _ _ h => h; rw [HE.out] at this; exact this
def lookL (acc more : List Nat) : List Nat := more.foldl (fun a b => if b ∈ a then a else a ++ [b]) acc
theorem lookL_snoc (acc more : List Nat) (b : Nat) : lookL acc (more ++ [b]) = if b ∈ lookL acc more then lookL acc more else lookL acc more ++ [b] := by
 unfold lookL; rw [List.foldl_append]; rfl
theorem lookL_len (acc : List Nat) : ∀ more : List Nat, (lookL acc more).length <= acc.length + more.length := by
 unfold lookL; intro more
 induction more generalizing acc with
 | nil => simp
 | cons b r ih =>
   rw [List.foldl_cons]; have := ih (if b ∈ acc then acc else acc ++ [b])
   have h2 : (if b ∈ acc then acc else acc ++ [b]).length <= acc.length + 1 := by split <;> simp
   simp only [List.length_cons]; omega
def Live (w : World) (l : List Nat) : Prop := ∀ x ∈ l, ∃ c, w.heap[x]? = some (.cells c 141 (0, 0))
theorem i_tab : (Tryz.prog.info? 141).map (fun i => (i.zero.map (fun z => z.cells.size), i.size, i.bytes)) = some (some 14, 14, 232) := by kernel_rfl
theorem eq_tab (w : World) (x y : Nat) (hx : ∃ c, w.heap[x]? = some (.cells c 141 (0, 0))) (hy : ∃ c, w.heap[y]? = some (.cells c 141 (0, 0))) :
 (binOp .eql 126 (.pointer (some ⟨x, 0, none⟩)) (.pointer (some ⟨y, 0, none⟩))).run Tryz.prog w = .ok (.bool (decide (x = y))) w := by
 obtain ⟨j0, hj, _, hj1, _⟩ := Ow.info_of' i_tab; by_cases h : x = y
 · subst h
   rw [decide_eq_true rfl]; exact run_eql_ptr_same w _ Tryz.underlying126 hj
 · rw [decide_eq_false h]
   obtain ⟨cx, hx⟩ := hx; obtain ⟨cy, hy⟩ := hy; exact run_eql_ptr_other w Tryz.underlying126 hj (by rw [hj1]; decide) (fun e => h (by injection e)) hx hy
theorem indexT_any (l : List Nat) (b : Nat) (v : Value) (w : World) (h : RowX w 1 PtrX v l) (hn : l.length <= 1000) (hl : Live w (b :: l)) :
 Calls Tryz.prog 127 #[v, .pointer (some ⟨b, 0, none⟩)] w fun e w' => (∃ n : Int, e = .returned (.int .i64 n) /\ (0 <= n ↔ b ∈ l)) /\ w' = w := by
 have HR := hide h; have HL := hide hl; obtain ⟨a, c, rfl, _⟩ := h.len; clear h hl; obtain ⟨n, hn'⟩ : ∃ q, q = l.length := ⟨_, rfl⟩; have HN := hide hn'; rw [<- hn'] at HR hn ⊢; clear hn'; go_enter Tryz.func127, Tryz.ntmps127; go_wp2_with fail
 go_loop [8] (fun i => ∃ k : Nat, k <= n /\ i = .int .i64 k /\ Hid (b ∉ l.take k)) (fun i => n - (intOf i).toNat)
 case atStart => exact ⟨0, Nat.zero_le _, rfl, hide (by simp)⟩
 case round =>
  obtain ⟨k, hk, rfl, HNo⟩ := hrel; by_cases hlt : k < n
  · obtain ⟨x, hx⟩ : ∃ x, l[k]? = some x := ⟨l[k]'(by rw [<- HN.out]; exact hlt), List.getElem?_eq_getElem _⟩
    obtain ⟨g, o, eg, ys, wf, hc⟩ := Ow.row_at' HR.out hx; subst eg; have hwf : ys = [.pointer (some ⟨x, 0, none⟩)] := wf; subst hwf; have r0 := hc w (Below.refl _ _) 0 _ rfl; rw [Nat.add_zero, Nat.mul_one] at r0; have HX := hide hx; have hlt' : (k : Int) < (n : Int) := by omega
    have hq := eq_tab w b x (HL.out b (by simp)) (HL.out x (by simp [List.mem_of_getElem? hx]))
    clear hc wf hx; by_cases hb : b = x
    · rw [decide_eq_true hb] at hq
      rw [<- hb] at HX; have HIn := hide (List.mem_of_getElem? HX.out); clear hb; go_wp2_with fail; go_ret; exact ⟨⟨_, rfl, by constructor <;> intro _ <;> first | exact HIn.out | omega⟩, rfl⟩
    · rw [decide_eq_false hb] at hq
      have HNo2 : Hid (b ∉ l.take (k + 1)) := hide (by
       rw [List.take_add_one, HX.out, List.mem_append]; rintro (h | h)
       · exact HNo.out h
       · simp at h; exact hb h)
      clear hb; go_wp2_with fail
      go_round
      case rel => exact ⟨k + 1, by omega, by go_num, HNo2⟩
      case measure => simp [intOf]; omega
  · have HN2 : Hid (b ∉ l) := hide (by have := HNo.out; rwa [List.take_of_length_le (by rw [<- HN.out]; omega)] at this)
    have hnl : ¬ ((k : Int) < (n : Int)) := by omega
    go_wp2_with fail; go_ret; exact ⟨⟨_, rfl, by constructor <;> intro h <;> first | exact absurd h HN2.out | omega⟩, rfl⟩
theorem hasT_any (l : List Nat) (b : Nat) (v : Value) (w : World) (h : RowX w 1 PtrX v l) (hn : l.length <= 1000) (hl : Live w (b :: l)) :
 Calls Tryz.prog 108 #[v, .pointer (some ⟨b, 0, none⟩)] w fun e w' => e = .returned (.bool (decide (b ∈ l))) /\ w' = w := by
 have hI := hide (indexT_any l b v w h hn hl); obtain ⟨a, c, rfl, _⟩ := h.len; clear h hl; go_enter Tryz.func108, Tryz.ntmps108; go_wp2_with fail; refine hI.out.mono ?_; rintro e w1 ⟨⟨m, rfl, hm⟩, hw1⟩; have hw1' := hw1.symm; subst hw1'; have HM := hide hm; clear hI hm hw1; go_wp2_with fail; go_ret; refine ⟨?_, rfl⟩; by_cases h : b ∈ l
 · rw [decide_eq_true h]; have := HM.out.2 h; simp; omega
 · rw [decide_eq_false h]; have : ¬ 0 <= m := fun h2 => h (HM.out.1 h2); simp; omega
structure Fx (S : Nat -> Prop) (w w' : World) : Prop where
 bel : Below 0 w w'
 blk : ∀ k, k < w.heap.size -> ¬ S k -> w'.heap[k]? = w.heap[k]?
theorem Fx.refl (S : Nat -> Prop) (w : World) : Fx S w w := ⟨Below.refl _ _, fun _ _ _ => rfl⟩
theorem Fx.size {S : Nat -> Prop} {w w' : World} (h : Fx S w w') : w.heap.size <= w'.heap.size := h.bel.size
theorem Fx.trans {S : Nat -> Prop} {a b c : World} (h : Fx S a b) (k : Fx S b c) : Fx S a c :=
 ⟨h.bel.trans k.bel, fun i hi hn => (k.blk i (Nat.lt_of_lt_of_le hi h.size) hn).trans (h.blk i hi hn)⟩
theorem Fx.mono {S S' : Nat -> Prop} {a b : World} (h : Fx S a b) (hs : ∀ k, k < a.heap.size -> S k -> S' k) : Fx S' a b := ⟨h.bel, fun k hk hn => h.blk k hk fun hx => hn (hs k hk hx)⟩
theorem Fx.below {S : Nat -> Prop} {a b : World} (h : Below a.heap.size a b) : Fx S a b := ⟨h.mono (Nat.zero_le _), fun k hk _ => h.block k hk⟩
theorem Fx.alloc (S : Nat -> Prop) (w : World) (o : Obj) : Fx S w (w.alloc o) := Fx.below ((Below.refl _ _).alloc (Nat.le_refl _) o)
theorem Fx.set {S : Nat -> Prop} {w : World} {b k : Nat} (hb : S b) (u : Value) : Fx S w (w.setCell ⟨b, k, none⟩ u) :=
 ⟨(Below.refl 0 w).setCell (Nat.zero_le _) u, fun i _ hn => Below.heap_setCell _ _ _ _ (fun h => hn (h ▸ hb))⟩
theorem Fx.grown {w w' : World} {r : Option Nat} (h : w.grownBy w' r) : Fx (fun k => r = some k) w w' :=
 ⟨Below.grown (Below.refl 0 w) h (Nat.zero_le _) (fun _ _ => Nat.zero_le _), fun k hk hn => h.block k hk fun e => hn e.symm⟩
def Stb {α : Type} (S : Nat -> Prop) (w : World) (sz : Nat) (P : α -> List Value -> Prop) (v : Value) (l : List α) : Prop :=
 ∃ a c, v = .slice a l.length c /\ l.length <= c /\ (l = [] \/ ∃ b o, a = some ⟨b, o, none⟩ /\ b < w.heap.size /\ ¬ S b /\ ∀ (k : Nat) (x : α), l[k]? = some x -> ∃ ys, P x ys /\ ∀ (j : Nat) (u : Value), ys[j]? = some u -> w.cell? ⟨b, o + k * sz + j, none⟩ = some u)
theorem Stb.row {α : Type} {S : Nat -> Prop} {w : World} {sz : Nat} {P : α -> List Value -> Prop} {v : Value} {l : List α} (h : Stb S w sz P v l) : RowX w sz P v l := by
 obtain ⟨a, c, h1, h2, h⟩ := h; refine ⟨a, c, h1, h2, ?_⟩
 rcases h with h | ⟨b, o, h3, h4, _, h5⟩
 · exact .inl h
 · exact .inr ⟨b, o, h3, h4, h5⟩
theorem cell_of_blk {w w' : World} {b k : Nat} (h : w'.heap[b]? = w.heap[b]?) : w'.cell? ⟨b, k, none⟩ = w.cell? ⟨b, k, none⟩ := by
 unfold World.cell?; simp only [h]
theorem Stb.on {α : Type} {S : Nat -> Prop} {w w' : World} {sz : Nat} {P P' : α -> List Value -> Prop} {v : Value} {l : List α} (h : Stb S w sz P v l) (hf : Fx S w w') (hp : ∀ x ys, P x ys -> P' x ys) : Stb S w' sz P' v l := by
 obtain ⟨a, c, h1, h2, h⟩ := h; refine ⟨a, c, h1, h2, ?_⟩
 rcases h with h | ⟨b, o, h3, h4, h5, h6⟩
 · exact .inl h
 · refine .inr ⟨b, o, h3, Nat.lt_of_lt_of_le h4 hf.size, h5, fun k x hk => ?_⟩
   obtain ⟨ys, p1, p2⟩ := h6 k x hk; exact ⟨ys, hp x ys p1, fun j u hj => (cell_of_blk (hf.blk b h4 h5)).trans (p2 j u hj)⟩
theorem Stb.sub {α : Type} {S S' : Nat -> Prop} {w : World} {sz : Nat} {P : α -> List Value -> Prop} {v : Value} {l : List α} (h : Stb S w sz P v l) (hs : ∀ k, k < w.heap.size -> S' k -> S k) : Stb S' w sz P v l := by
 obtain ⟨a, c, h1, h2, h⟩ := h; refine ⟨a, c, h1, h2, ?_⟩
 rcases h with h | ⟨b, o, h3, h4, h5, h6⟩
 · exact .inl h
 · exact .inr ⟨b, o, h3, h4, fun hx => h5 (hs b h4 hx), h6⟩
theorem Live.on {S : Nat -> Prop} {w w' : World} {l : List Nat} (h : Live w l) (hf : Fx S w w') (hs : ∀ x ∈ l, ¬ S x) : Live w' l := fun x hx => by
 obtain ⟨c, hc⟩ := h x hx; exact ⟨c, (hf.blk x (Ow.lt_of_blk hc) (hs x hx)).trans hc⟩
namespace Ow
section
variable {α : Type} {P : α -> List Value -> Prop} {sz base e : Nat} {w : World} {v : Value} {l : List α}
theorem run_app2s {Pr : Program} {t ty : TypeId} {i : TypeInfo} {n bytes : Nat} (ht : Pr.underlying t = some (.slice e)) (hi : Pr.info? e = some i) (hz : i.zero.map (fun z => z.cells.size) = some sz) (hsize : i.size = sz) (hby : i.bytes = bytes) (hsz : 0 < sz) (hs : Shp P sz)
 (ho : OwnX w base e sz P v l) {v2 : Value} {l2 : List α} (hr : RowX w sz P v2 l2) (h63 : l.length + l2.length <= 1000000) (hb2 : bytes <= 1000) (hbase : base <= w.heap.size) :
 ∃ v' w', (Builtin.append_ #[t, t] ty #[v, v2]).run Pr w = .ok v' w' /\ OwnX w' base e sz P v' (l ++ l2) /\ w.grownBy w' v.ownBlock /\ (v'.ownBlock = v.ownBlock \/ v'.ownBlock = some w.heap.size) := by
 cases hzz : i.zero with
 | none => rw [hzz] at hz; cases hz
 | some z =>
   rw [hzz] at hz; simp at hz; obtain ⟨a, c, rfl, hc, hr⟩ := hr; obtain ⟨news, hf, hown⟩ := ho
   have key : ∀ (ad : Addr) (news2 : List Value), Flat P l2 news2 -> (∀ j u, news2[j]? = some u -> w.cell? (ad.add j) = some u) -> ∃ v' w', (Builtin.append_ #[t, t] ty #[v, .slice (some ad) l2.length c]).run Pr w = .ok v' w' /\ OwnX w' base e sz P v' (l ++ l2) /\ w.grownBy w' v.ownBlock /\ (v'.ownBlock = v.ownBlock \/ v'.ownBlock = some w.heap.size) := by
    intro ad news2 hf2 hc2; have hbb : (l.length + l2.length) * bytes <= 1000000 * 1000 := Nat.mul_le_mul h63 hb2; obtain ⟨v', w', h1, h2, h3, _, h5⟩ := run_append_own_at (P := Pr) w base t ty e i z sz bytes ht hi hzz hsize hby hz hsz v l.length news hown ad l2.length c news2 (hf2.len hs) hc2 (hf2.ones hs) (by unfold maxLen; omega) (by omega) hbase
    exact ⟨v', w', h1, ⟨news ++ news2, hf.app hf2, by rw [List.length_append]; exact h2⟩, h3, h5⟩
   rcases hr with rfl | ⟨b, o, rfl, hlt, hx⟩
   · cases a with
     | some ad => exact key ad [] rfl (by intro j u hj; simp at hj)
     | none =>
       refine ⟨v, w, ?_, ⟨news, by simpa using hf, by simpa using hown⟩, ⟨rfl, rfl, rfl, Nat.le_refl _, fun _ _ _ => rfl⟩, .inl rfl⟩
       rcases hown.2 with ⟨rfl, _⟩ | ⟨g, cap, cur, rfl, _, _, hnc, _⟩
       · simp [Builtin.append_, run_underlying ht, sizeOf, typeInfo, hi, Builtin.lenOf, Builtin.firstCells, loadCells, loadCellsFrom]
       · simp [Builtin.append_, run_underlying ht, sizeOf, typeInfo, hi, Builtin.lenOf, Builtin.firstCells, loadCells, loadCellsFrom, hnc, storeCells]
   · obtain ⟨news2, hf2, hc2⟩ := flat_of hs l2 o hx
     exact key ⟨b, o, none⟩ news2 hf2 (fun j u hj => by rw [Go.WideShapes.add_plain]; exact hc2 j u hj)
theorem wpList_app2s {Pr : Program} {ops : Array Oper} {rest : List Oper} {o : Oper} {a : Act} {Q : Exit -> Act -> World -> Prop} (hgd : o.guard = none) (s x : Operand) (t : TypeId)
 (hop : o.op = .call { callee := .builtin .append, args := #[s, x], argTypes := #[t, t] }) {i : TypeInfo} {bytes : Nat}
 (ht : Pr.underlying t = some (.slice e)) (hi : Pr.info? e = some i) (hz : i.zero.map (fun z => z.cells.size) = some sz) (hsize : i.size = sz) (hby : i.bytes = bytes) (hsz : 0 < sz) (hs : Shp P sz)
 (hv : a.eval s = v) (ho : OwnX w base e sz P v l) {v2 : Value} {l2 : List α} (hv2 : a.eval x = v2) (hr : RowX w sz P v2 l2) (h63 : l.length + l2.length <= 1000000) (hb2 : bytes <= 1000) (hbase : base <= w.heap.size)
 (h : ∀ v' w', OwnX w' base e sz P v' (l ++ l2) -> w.grownBy w' v.ownBlock -> (v'.ownBlock = v.ownBlock \/ v'.ownBlock = some w.heap.size) -> wpList Pr ops Q rest (a.put o.dst v') w') : wpList Pr ops Q (o :: rest) a w := by
 refine wpList_plain hgd fun K hK => ?_; obtain ⟨v', w', hrun, h1, h2, h3⟩ := run_app2s (Pr := Pr) (t := t) (ty := o.type) (n := 0) ht hi hz hsize hby hsz hs ho hr h63 hb2 hbase; unfold Oper.wp execOp; simp only [hop, resolve, invoke, builtin, Sem.run_bind, Sem.run_pure, Result.andThen_ok, List.map_toArray, List.map_cons, List.map_nil, hv, hv2, hrun]; exact hK _ _ (h v' w' h1 h2 h3)
end
end Ow
theorem Fx.then {S T : Nat -> Prop} {a b c : World} (h : Fx S a b) (k : Fx T b c) (hs : ∀ x, x < a.heap.size -> T x -> S x) : Fx S a c :=
 ⟨h.bel.trans k.bel, fun i hi hn => (k.blk i (Nat.lt_of_lt_of_le hi h.size) fun hx => hn (hs i hi hx)).trans (h.blk i hi hn)⟩
theorem put_blk {w : World} {b k : Nat} {c : Array Value} {t : TypeId} (h : w.heap[b]? = some (.cells c t (0, 0))) (u : Value) : (w.setCell ⟨b, k, none⟩ u).heap[b]? = some (.cells (c.setIfInBounds k u) t (0, 0)) := by
 have hlt := Ow.lt_of_blk h; have h' : w.heap[b] = .cells c t (0, 0) := by simpa [Array.getElem?_eq_getElem hlt] using h
 show (w.heap.modify b _)[b]? = _; rw [Array.getElem?_eq_getElem (by simpa using hlt), Array.getElem_modify_self, h']
 rfl
theorem Ow.fzl_blk {w : World} {b : Nat} {c : Array Value} {t : TypeId} (h : w.heap[b]? = some (.cells c t (0, 0))) (o : Nat) : w.frozen? ⟨b, o, none⟩ = false := by
 unfold World.frozen?; rw [h]; simp
theorem Live.more {S : Nat -> Prop} {w w' : World} {l : List Nat} (h : Live w l) (hf : Fx S w w') (hs : ∀ x ∈ l, S x -> ∃ c, w'.heap[x]? = some (.cells c 141 (0, 0))) : Live w' l := fun x hx => by
 obtain ⟨c, hc⟩ := h x hx; by_cases hS : S x
 · exact hs x hx hS
 · exact ⟨c, (hf.blk x (Ow.lt_of_blk hc) hS).trans hc⟩
theorem mem_lookL {x : Nat} : ∀ (more acc : List Nat), x ∈ lookL acc more -> x ∈ acc \/ x ∈ more := by
 intro more
 induction more with
 | nil => intro acc h; exact .inl h
 | cons b r ih =>
   intro acc h; have h2 : lookL acc (b :: r) = lookL (if b ∈ acc then acc else acc ++ [b]) r := rfl
   rw [h2] at h
   rcases ih _ h with h | h
   · split at h
     · exact .inl h
     · rcases List.mem_append.1 h with h | h
       · exact .inl h
       · simp at h; subst h; exact .inr (by simp)
   · exact .inr (List.mem_cons_of_mem _ h)
def upC (cs : Array Value) (v : Value) : Array Value := cs.setIfInBounds 13 v
theorem upC_up (cs : Array Value) (u v : Value) : (upC cs u).setIfInBounds 13 v = upC cs v := by unfold upC; simp
theorem upC_at {cs : Array Value} (h : cs.size = 14) (v : Value) : (upC cs v)[13]? = some v := by unfold upC; simp [h]
theorem upC_self {cs : Array Value} {v : Value} (h : cs[13]? = some v) : upC cs v = cs := by
 unfold upC; apply Array.ext_getElem?; intro i; rw [Array.getElem?_setIfInBounds]
 split
 · next e => subst e; split
             · exact h.symm
             · next h2 => rw [Array.getElem?_eq_none (by omega)] at h; cases h
 · rfl
theorem lookAlso_any (S : Nat -> Prop) (l acc : List Nat) (b base : Nat) (cs : Array Value) (va v : Value) (w : World)
 (hb : w.heap[b]? = some (.cells cs 141 (0, 0))) (h14 : cs.size = 14) (h13 : cs[13]? = some va)
 (ho : Ow.OwnX w base 126 1 PtrX va acc) (hbase : base <= w.heap.size) (hSb : S b) (hSo : ∀ k, va.ownBlock = some k -> S k)
 (hr : Stb S w 1 PtrX v l) (hn : acc.length + l.length <= 1000) (hl : Live w (acc ++ l)) (hne : ∀ x ∈ acc ++ l, S x -> x = b) :
 Calls Tryz.prog 146 #[.pointer (some ⟨b, 0, none⟩), v] w fun e w' => e = .returned (.tuple #[]) /\ ∃ va', w'.heap[b]? = some (.cells (upC cs va') 141 (0, 0)) /\ Ow.OwnX w' base 126 1 PtrX va' (lookL acc l) /\ Fx S w w' /\
  (va'.ownBlock = va.ownBlock \/ ∃ q, w.heap.size <= q /\ va'.ownBlock = some q) := by
 have HR := hide hr; have HL := hide hl; have HNe := hide hne; have HSo := hide hSo; have HSb := hide hSb; have H14 := hide h14; obtain ⟨a, c, rfl, _⟩ := hr.row.len; obtain ⟨n, hn'⟩ : ∃ q, q = l.length := ⟨_, rfl⟩; have HN := hide hn'; rw [<- hn'] at HR ⊢; have HNm := hide hn; have hb0 : Hid (w.heap[b]? = some (.cells (upC cs va) 141 (0, 0))) := hide (by rw [upC_self h13]; exact hb)
 have hbl := Ow.lt_of_blk hb; have HO := hide ho; clear hr hl hne hn' hb h13 ho hSo hSb h14 hn; have hn1 : n <= 1000 := by have h1 := HNm.out; have h2 := HN.out; omega
 obtain ⟨j0, hj, hj0, hj1, hj2⟩ := Ow.info_of' Ow.i_tabp; go_enter Tryz.func146, Tryz.ntmps146; go_wp2_with fail
 go_loopw [8] (fun i wr => ∃ (k : Nat) (vk : Value), k <= n /\ i = .int .i64 k /\ Hid (wr.heap[b]? = some (.cells (upC cs vk) 141 (0, 0))) /\ Hid (Ow.OwnX wr base 126 1 PtrX vk (lookL acc (l.take k))) /\ Hid (Fx S w wr) /\ Hid (vk.ownBlock = va.ownBlock \/ ∃ q, w.heap.size <= q /\ vk.ownBlock = some q)) (fun i _ => n - (intOf i).toNat)
 case atStart => exact ⟨0, va, Nat.zero_le _, rfl, hb0, HO, hide (Fx.refl _ _), hide (.inl rfl)⟩
 case round =>
  obtain ⟨k, vk, hk, rfl, HBk, HOk, HF, HQ⟩ := hrel; obtain ⟨ka, kc, ek⟩ := HOk.out.shape; obtain ⟨ln, hln⟩ : ∃ q, q = (lookL acc (l.take k)).length := ⟨_, rfl⟩; rw [<- hln] at ek; subst ek; have HLn := hide hln; clear hln; have HLk : Hid ((lookL acc (l.take k)).length <= 1000) := hide (by have h1 := lookL_len acc (l.take k); have h2 := HNm.out; rw [List.length_take] at h1; omega)
  have HLv : Hid (Live wr (acc ++ l)) := hide (HL.out.more HF.out fun x hx hs => by rw [HNe.out x hx hs]; exact ⟨_, HBk.out⟩)
  by_cases hlt : k < n
  · obtain ⟨x, hx⟩ : ∃ x, l[k]? = some x := ⟨l[k]'(by rw [<- HN.out]; exact hlt), List.getElem?_eq_getElem _⟩
    have HRr := (HR.out.on HF.out fun _ _ h => h).row; rw [HN.out] at HRr; obtain ⟨g, o, eg, ys, wf, hc⟩ := Ow.row_at' HRr hx; subst eg; have hwf : ys = [.pointer (some ⟨x, 0, none⟩)] := wf; subst hwf; have r0 := hc wr (Below.refl _ _) 0 _ rfl; rw [Nat.add_zero, Nat.mul_one] at r0; have HX := hide hx; have c13 : wr.cell? ⟨b, 13, none⟩ = some (.slice ka ln kc) := (cell_box HBk.out 13).trans (upC_at H14.out _); have hlt' : (k : Int) < (n : Int) := by omega
    have HT := hide (hasT_any (lookL acc (l.take k)) x (.slice ka ln kc) wr (HOk.out.row shp_ptr fun _ _ h => h) HLk.out (by
     intro y hy
     rcases List.mem_cons.1 hy with rfl | hy
     · exact HLv.out _ (List.mem_append.2 (.inr (List.mem_of_getElem? HX.out)))
     · rcases mem_lookL _ _ hy with hy | hy
       · exact HLv.out _ (List.mem_append.2 (.inl hy))
       · exact HLv.out _ (List.mem_append.2 (.inr (List.mem_of_mem_take hy)))))
    clear hc wf hx HRr; by_cases hin : x ∈ lookL acc (l.take k)
    · rw [decide_eq_true hin] at HT
      have HTk : Hid (lookL acc (l.take (k + 1)) = lookL acc (l.take k)) := hide (by rw [List.take_add_one, HX.out]; exact (lookL_snoc _ _ _).trans (if_pos hin))
      clear hin; go_wp2_with fail; refine HT.out.mono ?_; rintro e w1 ⟨rfl, hw1⟩; have hw1' := hw1.symm; subst hw1'; clear HT hw1; go_wp2_with fail
      go_roundw
      case rel => exact ⟨k + 1, _, by omega, by go_num, HBk, by rw [HTk.out]; exact HOk, HF, HQ⟩
      case measure => simp [intOf]; omega
    · rw [decide_eq_false hin] at HT
      have HTk : Hid (lookL acc (l.take (k + 1)) = lookL acc (l.take k) ++ [x]) := hide (by rw [List.take_add_one, HX.out]; exact (lookL_snoc _ _ _).trans (if_neg hin))
      have hA : Below wr.heap.size wr (wr.alloc (.cells #[.pointer (some ⟨x, 0, none⟩)] 126)) := (Below.refl _ _).alloc (Nat.le_refl _) _; have HR2 : Hid (RowX (wr.alloc (.cells #[.pointer (some ⟨x, 0, none⟩)] 126)) 1 PtrX (.slice (some ⟨wr.heap.size, 0, none⟩) 1 1) [x]) := hide (Ow.row_one' (P := PtrX) (x := x) (ys := [.pointer (some ⟨x, 0, none⟩)]) rfl); have HO2 := hide (HOk.out.on hA fun _ _ h => h); have hbr := Ow.lt_of_blk HBk.out; have HB2 : Hid ((wr.alloc (.cells #[.pointer (some ⟨x, 0, none⟩)] 126)).heap[b]? = some (.cells (upC cs (.slice ka ln kc)) 141 (0, 0))) := hide ((hA.block b hbr).trans HBk.out); have HS2 : Hid (base <= (wr.alloc (.cells #[.pointer (some ⟨x, 0, none⟩)] 126)).heap.size) := hide (by have := HF.out.size; have := hA.size; omega)
      have HF2 : Hid (Fx S w (wr.alloc (.cells #[.pointer (some ⟨x, 0, none⟩)] 126))) := hide (HF.out.trans (Fx.below hA)); have hll : (lookL acc (l.take k)).length <= 1000 := HLk.out; clear hin hA hbr; go_wp2_with fail; refine HT.out.mono ?_; rintro e w1 ⟨rfl, hw1⟩; have hw1' := hw1.symm; subst hw1'; clear HT hw1
      go_wp2_with (at_builtin; refine Ow.wpList_app2s rfl (.tmp 23) (.tmp 25) 104 rfl Tryz.underlying104 hj hj0 hj1 hj2 (by decide) shp_ptr (by first | rfl | simp [Act.eval, Act.put]) HO2.out (by first | rfl | simp [Act.eval, Act.put]) HR2.out (by simp; omega) (by decide) HS2.out ?_)
      intro v5 w5 ho5 hg5 hq5
      have HQ5 : Hid (v5.ownBlock = va.ownBlock \/ ∃ q, w.heap.size <= q /\ v5.ownBlock = some q) := hide (by
       rcases hq5 with h | h
       · rcases HQ.out with h2 | ⟨q, h2, h3⟩
         · exact .inl (h.trans h2)
         · exact .inr ⟨q, h2, h.trans h3⟩
       · refine .inr ⟨_, ?_, h⟩
         have h2 := HF.out.size
         omega)
      have HF5 : Hid (Fx S w w5) := hide (HF2.out.then (Fx.grown hg5) (by
       intro y hy h
       rcases HQ.out with h2 | ⟨q, h2, h3⟩
       · exact HSo.out y (h2.symm.trans h)
       · rw [h3] at h; injection h with h; omega))
      have HB5 : Hid (w5.heap[b]? = some (.cells (upC cs (.slice ka ln kc)) 141 (0, 0))) := hide ((hg5.block b (Ow.lt_of_blk HB2.out) (fun h => by
       obtain ⟨nw, _, hown⟩ := HO2.out; obtain ⟨cc, hcc⟩ := Ow.own_at hown _ h.symm; rw [HB2.out] at hcc
       cases hcc)).trans HB2.out)
      have HO5 := hide ho5; clear ho5 hg5 hq5 HO2 HR2 HB2 HS2 HF2; obtain ⟨xa, xc, rfl⟩ := HO5.out.shape; have hlen : (lookL acc (l.take k) ++ [x]).length = (lookL acc (l.take k)).length + 1 := by simp
      rw [hlen] at HQ5 HO5; clear hlen; have c5 : w5.cell? ⟨b, 13, none⟩ = some (.slice ka ln kc) := (cell_box HB5.out 13).trans (upC_at H14.out _); have z5 : w5.frozen? ⟨b, 13, none⟩ = false := Ow.fzl_blk HB5.out 13; go_wp2_with fail
      go_roundw
      case rel =>
       refine ⟨k + 1, .slice xa ((lookL acc (l.take k)).length + 1) xc, by omega, by go_num, hide (by rw [<- upC_up]; exact put_blk HB5.out _), ?_, hide (HF5.out.trans (Fx.set HSb.out _)), HQ5⟩
       rw [HTk.out]
       exact hide (HO5.out.keep (fun _ _ h => h) fun i c hi => (Below.heap_setCell w5 ⟨b, 13, none⟩ _ i (fun e => by
        have e : i = b := e; rw [e, HB5.out] at hi
        cases hi)).trans hi)
      case measure => simp [intOf]; omega
  · have hnl : ¬ ((k : Int) < (n : Int)) := by omega
    have HTl : Hid (lookL acc (l.take k) = lookL acc l) := hide (by rw [List.take_of_length_le (by rw [<- HN.out]; omega)])
    go_wp2_with fail; exact bodyPost_end (v := .tuple #[]) (by simp [results, Tryz.results146, go_sem]) rfl ⟨rfl, _, HBk.out, by rw [<- HTl.out]; exact HOk.out, HF.out, HQ.out⟩
theorem i_slotZ : (Tryz.prog.info? 89).map (fun i => (i.zero.map (fun z => z.cells.size), i.size, i.bytes)) = some (some 4, 4, 56) := by kernel_rfl
theorem sgrow_any (n : Nat) (w : World) (hn : n <= 1000000) :
 Calls Tryz.prog 162 #[.slice none 0 0, .int .i64 n] w fun e w' => ∃ v, e = .returned v /\ Ow.OwnX w' w.heap.size 89 4 SltX v [] /\ Below w.heap.size w w' := by
 obtain ⟨i0, hi0, hz0, hs0, hb0⟩ := Ow.info_of' i_slotZ
 obtain ⟨z, hz, hzc⟩ : ∃ z, i0.zero = some z /\ z.cells.size = 4 := by
  cases h : i0.zero with
  | none => rw [h] at hz0; cases hz0
  | some z => rw [h] at hz0; exact ⟨z, rfl, by simpa using hz0⟩
 by_cases h0 : n = 0
 · subst h0
   go_enter Tryz.func162, Tryz.ntmps162; go_wp2; go_ret; exact ⟨_, rfl, Ow.OwnX.nil _ _ _ _ _, Below.refl _ _⟩
 · have hrz : ∀ ty, (Builtin.append_ #[86, 3] ty #[.slice none 0 0, .int .i64 n]).run Tryz.prog w =
    .ok (.slice (some ⟨w.heap.size, 0, none⟩) n (grownCap w n 0 89)) (w.drew.alloc (.cells (Builtin.zeroCells z.cells n ++ Builtin.zeroCells z.cells (grownCap w n 0 89 - n)) 89)) := fun ty => by
    have h := Go.Lib.run_append_grow_zeros (P := Tryz.prog) w 86 3 ty 89 i0 z .i64 .i64 Tryz.underlying86 Tryz.underlying3 hi0 hz none 0 0 [] (run_firstCells_none w.drew i0.size 0 0 0) n (by omega) (by omega) (by omega) (by omega) (by rw [hb0]; omega) (by rw [hb0]; exact growslice_fits (by omega) (by omega))
    simpa using h
   obtain ⟨zc, hzq⟩ : ∃ q, q = z.cells := ⟨_, rfl⟩; rw [<- hzq] at hrz hzc; clear hzq; have hGn : n <= grownCap w n 0 89 := grownCap_ge w _ _ _; obtain ⟨G, hG⟩ : ∃ G, G = grownCap w n 0 89 := ⟨_, rfl⟩; rw [<- hG] at hrz hGn
   have hGl : G <= maxLen := by
    have := grownCap_le_maxLen w n 0 89 (by unfold maxLen; omega)
    rwa [<- hG] at this
   have hG63 : G <= 9223372036854775807 := by unfold maxLen at hGl; omega
   have h4 : (n : Int) > 0 := by omega
   clear hG; go_enter Tryz.func162, Tryz.ntmps162
   go_wp2_with (at_builtin; refine Go.Lib.wpList_append_run _ rfl _ _ _ _ rfl _ _ rfl rfl _ _ (hrz _) ?_)
   go_ret; refine ⟨_, rfl, ⟨[], rfl, rfl, .inr ⟨_, G, _, rfl, Nat.le_refl _, heap_alloc_new w _, Nat.zero_le _, hGl, ?_, rfl⟩⟩, ((Below.refl _ _).alloc (Nat.le_refl _) _).drew⟩; rw [Array.size_append, size_zeroCells, size_zeroCells, hzc, <- Nat.add_mul]
   congr 1
   omega
theorem concat_any (g o c : Nat) (v1 v2 : Value) (l1 l2 : List Pp.Slt) (w : World) (h1 : RowX w 4 SltX v1 l1) (h2 : RowX w 4 SltX v2 l2) (c1 : w.cell? ⟨g, o, none⟩ = some v1) (c2 : w.cell? ⟨g, o + 1, none⟩ = some v2) (hg : g < w.heap.size) (hn : l1.length + l2.length <= 1000000) :
 Calls Tryz.prog 157 #[.slice (some ⟨g, o, none⟩) 2 c] w fun e w' => ∃ v, e = .returned v /\ Ow.OwnX w' w.heap.size 89 4 SltX v (l1 ++ l2) /\ Below w.heap.size w w' := by
 have HR1 := hide h1; have HR2 := hide h2; obtain ⟨a1, k1, rfl, _⟩ := h1.len; obtain ⟨a2, k2, rfl, _⟩ := h2.len; clear h1 h2; obtain ⟨n1, hn1⟩ : ∃ q, q = l1.length := ⟨_, rfl⟩; obtain ⟨n2, hn2⟩ : ∃ q, q = l2.length := ⟨_, rfl⟩; have HN1 := hide hn1; have HN2 := hide hn2; rw [<- hn1] at HR1 c1 hn; rw [<- hn2] at HR2 c2 hn; clear hn1 hn2; have HC1 : Hid (∀ wx, Below w.heap.size w wx -> wx.cell? ⟨g, o, none⟩ = some (.slice a1 n1 k1)) := hide fun wx hb => (hb.cell hg).trans c1; have HC2 : Hid (∀ wx, Below w.heap.size w wx -> wx.cell? ⟨g, o + 1, none⟩ = some (.slice a2 n2 k2)) := hide fun wx hb => (hb.cell hg).trans c2; obtain ⟨j0, hj, hj0, hj1, hj2⟩ := Ow.info_of' Ow.i_slot; have hG := hide (sgrow_any (n1 + n2) w hn); go_enter Tryz.func157, Tryz.ntmps157; go_wp2_with fail
 go_loop [3, 11] (fun s i => (i = .int .i64 0 /\ s = .int .i64 0) \/ (i = .int .i64 1 /\ s = .int .i64 n1) \/ (i = .int .i64 2 /\ s = .int .i64 ((n1 + n2 : Nat) : Int))) (fun _ i => 2 - (intOf i).toNat)
 case atStart => exact .inl ⟨rfl, rfl⟩
 case round =>
  rcases hrel with ⟨rfl, rfl⟩ | ⟨rfl, rfl⟩ | ⟨rfl, rfl⟩
  · have b1 := HC1.out w (Below.refl _ _)
    go_wp2_with fail
    go_round
    case rel => exact .inr (.inl ⟨by go_num, by go_num⟩)
    case measure => simp [intOf]
  · have b1 := HC2.out w (Below.refl _ _)
    go_wp2_with fail
    go_round
    case rel => exact .inr (.inr ⟨by go_num, by go_num⟩)
    case measure => simp [intOf]
  · go_wp2_with fail
    refine hG.out.mono ?_; rintro e w1 ⟨v0, rfl, ho0, hb0⟩; have HO0 := hide ho0; have HB0 := hide hb0; clear hG ho0 hb0; obtain ⟨xa, xc, rfl⟩ := HO0.out.shape; go_wp2_with fail
    go_loopw [6, 27] (fun v i wr => Hid (Below w.heap.size w wr) /\ ((i = .int .i64 0 /\ Hid (Ow.OwnX wr w.heap.size 89 4 SltX v [])) \/ (i = .int .i64 1 /\ Hid (Ow.OwnX wr w.heap.size 89 4 SltX v l1)) \/ (i = .int .i64 2 /\ Hid (Ow.OwnX wr w.heap.size 89 4 SltX v (l1 ++ l2))))) (fun _ i _ => 2 - (intOf i).toNat)
    case atStart => exact ⟨HB0, .inl ⟨rfl, HO0⟩⟩
    case round =>
     obtain ⟨HBr, hrel⟩ := hrel
     rcases hrel with ⟨rfl, HO⟩ | ⟨rfl, HO⟩ | ⟨rfl, HO⟩
     · have b1 := HC1.out wr HBr.out
       have HRo : Hid (RowX wr 4 SltX _ _) := hide (HR1.out.on HBr.out fun _ _ h => h); obtain ⟨va, vc, rfl⟩ := HO.out.shape; have hsz := HBr.out.size; have hbd : ([] : List Pp.Slt).length + l1.length <= 1000000 := by have e1 := HN1.out; simp; omega
       go_wp2_with (at_builtin; refine Ow.wpList_app rfl (.tmp 31) (.tmp 32) 86 rfl Tryz.underlying86 hj hj0 hj1 hj2 (by decide) shp_slt (by first | rfl | simp [Act.eval, Act.put]) HO.out (by first | rfl | simp [Act.eval, Act.put]) HRo.out hbd (by decide) hsz ?_)
       intro v5 w5 ho5 hg5; have HB5 := hide (HBr.out.trans (Ow.bel_grown HO.out hsz hg5)); have HO5 := hide ho5; clear ho5 hg5 HO HRo HBr b1; obtain ⟨ya, yc, rfl⟩ := HO5.out.shape; go_wp2_with fail
       go_roundw
       case rel => exact ⟨HB5, .inr (.inl ⟨by go_num, HO5⟩)⟩
       case measure => simp [intOf]
     · have b1 := HC2.out wr HBr.out
       have HRo : Hid (RowX wr 4 SltX _ _) := hide (HR2.out.on HBr.out fun _ _ h => h); obtain ⟨va, vc, rfl⟩ := HO.out.shape; have hsz := HBr.out.size; have hbd : l1.length + l2.length <= 1000000 := by have e1 := HN1.out; have e2 := HN2.out; omega
       go_wp2_with (at_builtin; refine Ow.wpList_app rfl (.tmp 31) (.tmp 32) 86 rfl Tryz.underlying86 hj hj0 hj1 hj2 (by decide) shp_slt (by first | rfl | simp [Act.eval, Act.put]) HO.out (by first | rfl | simp [Act.eval, Act.put]) HRo.out hbd (by decide) hsz ?_)
       intro v5 w5 ho5 hg5; have HB5 := hide (HBr.out.trans (Ow.bel_grown HO.out hsz hg5)); have HO5 := hide ho5; clear ho5 hg5 HO HRo HBr b1; obtain ⟨ya, yc, rfl⟩ := HO5.out.shape; go_wp2_with fail
       go_roundw
       case rel => exact ⟨HB5, .inr (.inr ⟨by go_num, HO5⟩)⟩
       case measure => simp [intOf]
     · obtain ⟨va, vc, rfl⟩ := HO.out.shape
       go_wp2_with fail; go_ret; exact ⟨_, rfl, HO.out, HBr.out⟩
end Go.Proofs.YtbbbnciejmdpfaaGreatDoor
