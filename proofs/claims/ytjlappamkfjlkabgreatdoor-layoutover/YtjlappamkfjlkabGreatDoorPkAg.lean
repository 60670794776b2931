/- What the laws of this seat lean on: 4 texts. -/
import Derived.Test.YtjlappamkfjlkabGreatDoorPkAe
import Derived.Test.YtjlappamkfjlkabGreatDoorPkAf
import Derived.Test.YtjlappamkfjlkabGreatDoorPkAa
set_option maxRecDepth 100000
set_option maxHeartbeats 64000000
set_option linter.unusedVariables false
set_option linter.unusedSimpArgs false
namespace Go.Proofs.YtjlappamkfjlkabGreatDoor
open Go.RowKit
namespace Ly
theorem nodup_step {α : Type} {f : α -> Pp.Bs} {l : List α} {k : Nat} {x : α} (h : ((l.take k).map f).Nodup) (hx : l[k]? = some x) (hn : (l.take k).any (fun y => f x == f y) = false) : ((l.take (k + 1)).map f).Nodup := by
 rw [List.take_add_one, hx, Option.toList_some, List.map_append, List.nodup_append]; refine ⟨h, by simp, fun a ha b hb => ?_⟩
 obtain ⟨y, hy, rfl⟩ := List.mem_map.1 ha; simp at hb; subst hb; have := List.any_eq_false.1 hn y hy; intro e; exact this (by simp [e])
theorem nodup_not {α : Type} {f : α -> Pp.Bs} {l : List α} {k : Nat} {x : α} (hx : l[k]? = some x) (hn : (l.take k).any (fun y => f x == f y) = true) : ¬ (l.map f).Nodup := by
 intro h; obtain ⟨y, hy, e⟩ := List.any_eq_true.1 hn; have e : f x = f y := by simpa using e
 have h2 : ((l.take (k + 1)).map f).Nodup := List.Nodup.sublist ((List.take_sublist (k + 1) l).map f) h; rw [List.take_add_one, hx, Option.toList_some, List.map_append, List.nodup_append] at h2; exact h2.2.2 (f y) (List.mem_map.2 ⟨y, hy, rfl⟩) (f x) (by simp) e.symm
end Ly
theorem RowX.take {α : Type} {w : World} {sz : Nat} {P : α -> List Value -> Prop} {a : Option Addr} {n c : Nat} {l : List α} (h : RowX w sz P (.slice a n c) l) {k : Nat} (hk : k <= l.length) : RowX w sz P (.slice a k c) (l.take k) := by
 obtain ⟨a', c', e, hc, h⟩ := h; injection e with e1 e2 e3; subst e1 e3; refine ⟨a, c, by rw [List.length_take, Nat.min_eq_left hk], by rw [List.length_take]; omega, ?_⟩
 rcases h with rfl | ⟨b, o, e4, hlt, hr⟩
 · exact .inl (by simp)
 · refine .inr ⟨b, o, e4, hlt, fun j x hj => hr j x ?_⟩
   rw [List.getElem?_take] at hj
   split at hj
   · exact hj
   · cases hj
theorem tw1_any (x : Pp.Fld) (ys : List Value) (w : World) (h : FldX x ys) :
 Calls Tryz.prog 61 #[.agg ys.toArray] w fun e w' => e = .returned (.string ⟨x.name.toArray⟩) /\ Below w.heap.size w w' := by
 obtain ⟨rfl, _⟩ := h; simp only [fldL]; have HB := hide ((Below.refl w.heap.size w).alloc (Nat.le_refl _) (.cells #[.string ⟨x.name.toArray⟩, .int .i64 x.ty.kind, .string ⟨x.ty.name.toArray⟩, .bool x.stat] 88)); go_enter Tryz.func61, Tryz.ntmps61; go_wp2_with fail; go_ret; exact ⟨rfl, HB.out⟩
theorem repF1_any (x y : Pp.Fld) (xs ys : List Value) (bn bx : Nat) (w : World) (hx : FldX x xs) (hy : FldX y ys) (hbn : bn < w.heap.size) (hbx : bx < w.heap.size) (hn : w.cell? ⟨bn, 0, none⟩ = some (.func (.func 61) #[] #[]))
 (hxc : ∀ (j : Nat) (u : Value), xs[j]? = some u -> w.cell? ⟨bx, j, none⟩ = some u) :
 Calls Tryz.prog 83 #[.agg ys.toArray, .pointer (some ⟨bn, 0, none⟩), .pointer (some ⟨bx, 0, none⟩)] w fun e w' => e = .returned (.bool (x.name == y.name)) /\ Below w.heap.size w w' := by
 have HTx := hide (fun wx => tw1_any x xs wx hx); have HTy := hide (fun wx => tw1_any y ys wx hy); obtain ⟨rfl, _⟩ := hx; simp only [fldL] at HTx hxc; obtain ⟨rfl, _⟩ := hy; simp only [fldL] at HTy ⊢; have hb0 := (Below.refl w.heap.size w).alloc (Nat.le_refl _) (.cells #[.string ⟨y.name.toArray⟩, .int .i64 y.ty.kind, .string ⟨y.ty.name.toArray⟩, .bool y.stat] 88); have hy0 := heap_alloc_new w (.cells #[.string ⟨y.name.toArray⟩, .int .i64 y.ty.kind, .string ⟨y.ty.name.toArray⟩, .bool y.stat] 88); have HB := hide hb0
 have HS : Hid (∀ wz, Below (w.alloc (.cells #[.string ⟨y.name.toArray⟩, .int .i64 y.ty.kind, .string ⟨y.ty.name.toArray⟩, .bool y.stat] 88)).heap.size (w.alloc (.cells #[.string ⟨y.name.toArray⟩, .int .i64 y.ty.kind, .string ⟨y.ty.name.toArray⟩, .bool y.stat] 88)) wz -> wz.cell? ⟨bn, 0, none⟩ = some (.func (.func 61) #[] #[]) /\ wz.cell? ⟨bx, 0, none⟩ = some (.string ⟨x.name.toArray⟩) /\ wz.cell? ⟨bx, 1, none⟩ = some (.int .i64 x.ty.kind) /\ wz.cell? ⟨bx, 2, none⟩ = some (.string ⟨x.ty.name.toArray⟩) /\ wz.cell? ⟨bx, 3, none⟩ = some (.bool x.stat) /\ wz.cell? ⟨w.heap.size, 0, none⟩ = some (.string ⟨y.name.toArray⟩) /\ wz.cell? ⟨w.heap.size, 1, none⟩ = some (.int .i64 y.ty.kind) /\ wz.cell? ⟨w.heap.size, 2, none⟩ = some (.string ⟨y.ty.name.toArray⟩) /\ wz.cell? ⟨w.heap.size, 3, none⟩ = some (.bool y.stat)) := hide fun wz hb2 => by
  have hb := hb0.trans (hb2.mono hb0.size); exact ⟨(hb.cell hbn).trans hn, (hb.cell hbx).trans (hxc 0 _ rfl), (hb.cell hbx).trans (hxc 1 _ rfl), (hb.cell hbx).trans (hxc 2 _ rfl), (hb.cell hbx).trans (hxc 3 _ rfl), cell_box ((hb2.block _ (Ow.lt_of_blk hy0)).trans hy0) 0, cell_box ((hb2.block _ (Ow.lt_of_blk hy0)).trans hy0) 1, cell_box ((hb2.block _ (Ow.lt_of_blk hy0)).trans hy0) 2, cell_box ((hb2.block _ (Ow.lt_of_blk hy0)).trans hy0) 3⟩
 obtain ⟨r, hr⟩ : ∃ r, r = (x.name == y.name) := ⟨_, rfl⟩; have HR := hide hr; rw [<- hr]; clear hb0 hy0 hxc hn hr; go_enter Tryz.func83, Tryz.ntmps83; go_wp2_with fail; generalize w.alloc (.cells #[.string ⟨y.name.toArray⟩, .int .i64 y.ty.kind, .string ⟨y.ty.name.toArray⟩, .bool y.stat] 88) = wa at *
 have HBz : Hid (Below wa.heap.size wa wa.drew) := hide (Below.drew (Below.refl _ _))
 go_region_held3 (fun wz => wz.cell? ⟨bn, 0, none⟩ = some (.func (.func 61) #[] #[]) /\ wz.cell? ⟨bx, 0, none⟩ = some (.string ⟨x.name.toArray⟩) /\ wz.cell? ⟨bx, 1, none⟩ = some (.int .i64 x.ty.kind) /\ wz.cell? ⟨bx, 2, none⟩ = some (.string ⟨x.ty.name.toArray⟩) /\ wz.cell? ⟨bx, 3, none⟩ = some (.bool x.stat) /\ wz.cell? ⟨w.heap.size, 0, none⟩ = some (.string ⟨y.name.toArray⟩) /\ wz.cell? ⟨w.heap.size, 1, none⟩ = some (.int .i64 y.ty.kind) /\ wz.cell? ⟨w.heap.size, 2, none⟩ = some (.string ⟨y.ty.name.toArray⟩) /\ wz.cell? ⟨w.heap.size, 3, none⟩ = some (.bool y.stat)) (exact HS.out _ HBz.out)
  (first
    | (go_at_call 61
       refine (HTx.out _).mono ?_; rintro e wn ⟨rfl, hbn'⟩; have HBz := hide (HBz.out.trans (hbn'.mono HBz.out.size))
       clear hbn')
    | (go_at_call 61
       refine (HTy.out _).mono ?_; rintro e wn ⟨rfl, hbn'⟩; have HBz := hide (HBz.out.trans (hbn'.mono HBz.out.size))
       clear hbn')
    | fail)
 have HB2 := hide (HB.out.trans (HBz.out.mono HB.out.size)); clear HBz HS HTx HTy; go_wp2_with fail; go_ret; refine ⟨?_, HB2.out⟩; rw [HR.out]
 first | rfl | simp
theorem repF_any (l : List Pp.Fld) (v : Value) (w : World) (h : RowX w 4 FldX v l) (hn : l.length <= 100000) :
 Calls Tryz.prog 60 #[v, .func (.func 61) #[] #[]] w fun e w' => Hr.Yes (¬ (l.map (·.name)).Nodup) e /\ Below w.heap.size w w' := by
 have HR := hide h; obtain ⟨a, c, rfl, hcap⟩ := h.len; have HRk := hide (fun (k : Nat) (hk : k <= l.length) => h.take hk); clear h; obtain ⟨m, hm⟩ : ∃ q, q = l.length := ⟨_, rfl⟩; have HN := hide hm; rw [<- hm] at HR hn HRk hcap ⊢; clear hm; have hm1 : (m : Int) <= 100000 := by omega
 have HB0 := hide ((Below.refl w.heap.size w).alloc (Nat.le_refl _) (.cells #[.func (.func 61) #[] #[]] 132)); have HX0 := hide (heap_alloc_new w (.cells #[.func (.func 61) #[] #[]] 132)); have hmf : ∀ (fn : Fn) (first cap : Array Value) (w : World), (Instr.makeFunc fn first cap).run Tryz.prog w = .ok (.func fn first cap) w := fun _ _ _ _ => rfl
 go_enter Tryz.func60, Tryz.ntmps60; go_wp2_with fail; generalize w.alloc (.cells #[.func (.func 61) #[] #[]] 132) = wa at *
 go_loopw [9] (fun i wr => ∃ k : Nat, k <= m /\ i = .int .i64 k /\ Hid (Below wa.heap.size wa wr) /\ Hid (((l.take k).map (·.name)).Nodup)) (fun i _ => m - (intOf i).toNat)
 case atStart => exact ⟨0, Nat.zero_le _, rfl, hide (Below.refl _ _), hide (by simp)⟩
 case round =>
  obtain ⟨k, hk, rfl, HB, HNo⟩ := hrel; have HBw := hide (HB0.out.trans (HB.out.mono HB0.out.size)); by_cases hlt : k < m
  · obtain ⟨x, hx⟩ : ∃ x, l[k]? = some x := ⟨l[k]'(by rw [<- HN.out]; exact hlt), List.getElem?_eq_getElem _⟩
    obtain ⟨g, o, rfl, ys, wf, hc⟩ := Ow.row_at' HR.out hx; have hG := hide (hc wr HBw.out); have HY := hide (fun hp => Ly.nodup_not (f := (·.name)) hx hp); have HZ := hide (fun hp => Ly.nodup_step (f := (·.name)) HNo.out hx hp); have HWf := hide wf; clear hc hx HNo; obtain ⟨rfl, _⟩ := wf; simp only [fldL] at HWf; have r0 := hG.out 0 _ rfl; have r1 := hG.out 1 _ rfl; have r2 := hG.out 2 _ rfl; have r3 := hG.out 3 _ rfl; rw [Nat.add_zero] at r0
    try dsimp only at r0 r1 r2 r3
    clear hG; have hlt' : (k : Int) < (m : Int) := by omega
    have hA : Below wr.heap.size wr (wr.alloc (.cells #[.string ⟨x.name.toArray⟩, .int .i64 x.ty.kind, .string ⟨x.ty.name.toArray⟩, .bool x.stat] 88)) := (Below.refl _ _).alloc (Nat.le_refl _) _; have HBA := hide (HB.out.trans (hA.mono HB.out.size)); have HBwA := hide (HBw.out.trans (hA.mono HBw.out.size)); have hbx := heap_alloc_new wr (.cells #[.string ⟨x.name.toArray⟩, .int .i64 x.ty.kind, .string ⟨x.ty.name.toArray⟩, .bool x.stat] 88); have HX1 := hide ((HBA.out.block _ (Ow.lt_of_blk HX0.out)).trans HX0.out)
    have HCf := hide (cfFl_any (l.take k) (.slice (some ⟨g, o, none⟩) k c) ⟨w.heap.size, 0, none⟩ ⟨wr.heap.size, 0, none⟩ (fun y => x.name == y.name) _ ((HRk.out k hk).on HBwA.out fun _ _ h => h) (by rw [List.length_take]; omega) fun y ys _ hp wx hb =>
     repF1_any x y _ ys w.heap.size wr.heap.size wx HWf.out hp (Nat.lt_of_lt_of_le (Ow.lt_of_blk HX1.out) hb.size) (Nat.lt_of_lt_of_le (Ow.lt_of_blk hbx) hb.size) ((cell_box ((hb.block _ (Ow.lt_of_blk HX1.out)).trans HX1.out) 0).trans rfl) (fun j u hu => (cell_box ((hb.block _ (Ow.lt_of_blk hbx)).trans hbx) j).trans (by simpa using hu)))
    have hkc : k <= c := Nat.le_trans hk hcap; have hkc' : (k : Int) <= (c : Int) := by omega
    generalize (l.take k).any (fun y => x.name == y.name) = px at HY HZ HCf; clear hbx hA HX1 HWf; go_wp2_with fail; refine HCf.out.mono ?_; rintro e w1 ⟨rfl, hb1⟩; have HB1 := hide (HBA.out.trans (hb1.mono HBA.out.size)); clear HCf hb1; cases px with
    | true =>
      have HY' := hide (HY.out rfl); clear HY HZ; go_wp2_with fail; go_ret; exact ⟨.yes HY'.out, HB0.out.trans (HB1.out.mono HB0.out.size)⟩
    | false =>
      have HZ' := hide (HZ.out rfl); clear HY HZ; go_wp2_with fail
      go_roundw
      case rel => exact ⟨k + 1, by omega, by go_num, HB1, HZ'⟩
      case measure => simp [intOf]; omega
  · have HZ : Hid ((l.map (·.name)).Nodup) := hide (by
     have := HNo.out
     rwa [List.take_of_length_le (by rw [<- HN.out]; omega)] at this)
    have hnl : ¬ ((k : Int) < (m : Int)) := by omega
    clear HNo; go_wp2_with fail; go_ret; exact ⟨.no fun h => h HZ.out, HBw.out⟩
theorem tw2_any (wp : World) (x : Pp.XMth) (ys : List Value) (w : World) (h : (MthX wp) x ys) :
 Calls Tryz.prog 63 #[.agg ys.toArray] w fun e w' => e = .returned (.string ⟨x.name.toArray⟩) /\ Below w.heap.size w w' := by
 obtain ⟨vp, vc, vk, rfl, x1, x2, x3, _⟩ := h; obtain ⟨xa1, xd1, rfl, _⟩ := x1.len; obtain ⟨xa2, xd2, rfl, _⟩ := x2.len; obtain ⟨xa3, xd3, rfl, _⟩ := x3.len; clear x1 x2 x3; simp only [mthXL]; have HB := hide ((Below.refl w.heap.size w).alloc (Nat.le_refl _) (.cells #[.string ⟨x.name.toArray⟩, .bool x.stat, .bool x.abst, .slice xa1 x.params.length xd1, .int .i64 x.ret.kind, .string ⟨x.ret.name.toArray⟩, .int .i64 x.locals, .slice xa2 x.code.length xd2, .slice xa3 x.catches.length xd3] 29)); go_enter Tryz.func63, Tryz.ntmps63; go_wp2_with fail; go_ret; exact ⟨rfl, HB.out⟩
theorem repM1_any (wp : World) (x y : Pp.XMth) (xs ys : List Value) (bn bx : Nat) (w : World) (hx : (MthX wp) x xs) (hy : (MthX wp) y ys) (hbn : bn < w.heap.size) (hbx : bx < w.heap.size) (hn : w.cell? ⟨bn, 0, none⟩ = some (.func (.func 63) #[] #[]))
 (hxc : ∀ (j : Nat) (u : Value), xs[j]? = some u -> w.cell? ⟨bx, j, none⟩ = some u) :
 Calls Tryz.prog 85 #[.agg ys.toArray, .pointer (some ⟨bn, 0, none⟩), .pointer (some ⟨bx, 0, none⟩)] w fun e w' => e = .returned (.bool (x.name == y.name)) /\ Below w.heap.size w w' := by
 have HTx := hide (fun wx => tw2_any wp x xs wx hx); have HTy := hide (fun wx => tw2_any wp y ys wx hy); obtain ⟨vp, vc, vk, rfl, x1, x2, x3, _⟩ := hx; obtain ⟨xa1, xd1, rfl, _⟩ := x1.len; obtain ⟨xa2, xd2, rfl, _⟩ := x2.len; obtain ⟨xa3, xd3, rfl, _⟩ := x3.len; clear x1 x2 x3; simp only [mthXL] at HTx hxc; obtain ⟨vp, vc, vk, rfl, x1, x2, x3, _⟩ := hy; obtain ⟨ya1, yd1, rfl, _⟩ := x1.len; obtain ⟨ya2, yd2, rfl, _⟩ := x2.len; obtain ⟨ya3, yd3, rfl, _⟩ := x3.len; clear x1 x2 x3; simp only [mthXL] at HTy ⊢; have hb0 := (Below.refl w.heap.size w).alloc (Nat.le_refl _) (.cells #[.string ⟨y.name.toArray⟩, .bool y.stat, .bool y.abst, .slice ya1 y.params.length yd1, .int .i64 y.ret.kind, .string ⟨y.ret.name.toArray⟩, .int .i64 y.locals, .slice ya2 y.code.length yd2, .slice ya3 y.catches.length yd3] 29); have hy0 := heap_alloc_new w (.cells #[.string ⟨y.name.toArray⟩, .bool y.stat, .bool y.abst, .slice ya1 y.params.length yd1, .int .i64 y.ret.kind, .string ⟨y.ret.name.toArray⟩, .int .i64 y.locals, .slice ya2 y.code.length yd2, .slice ya3 y.catches.length yd3] 29); have HB := hide hb0
 have HS : Hid (∀ wz, Below (w.alloc (.cells #[.string ⟨y.name.toArray⟩, .bool y.stat, .bool y.abst, .slice ya1 y.params.length yd1, .int .i64 y.ret.kind, .string ⟨y.ret.name.toArray⟩, .int .i64 y.locals, .slice ya2 y.code.length yd2, .slice ya3 y.catches.length yd3] 29)).heap.size (w.alloc (.cells #[.string ⟨y.name.toArray⟩, .bool y.stat, .bool y.abst, .slice ya1 y.params.length yd1, .int .i64 y.ret.kind, .string ⟨y.ret.name.toArray⟩, .int .i64 y.locals, .slice ya2 y.code.length yd2, .slice ya3 y.catches.length yd3] 29)) wz -> wz.cell? ⟨bn, 0, none⟩ = some (.func (.func 63) #[] #[]) /\ wz.cell? ⟨bx, 0, none⟩ = some (.string ⟨x.name.toArray⟩) /\ wz.cell? ⟨bx, 1, none⟩ = some (.bool x.stat) /\ wz.cell? ⟨bx, 2, none⟩ = some (.bool x.abst) /\ wz.cell? ⟨bx, 3, none⟩ = some (.slice xa1 x.params.length xd1) /\ wz.cell? ⟨bx, 4, none⟩ = some (.int .i64 x.ret.kind) /\ wz.cell? ⟨bx, 5, none⟩ = some (.string ⟨x.ret.name.toArray⟩) /\ wz.cell? ⟨bx, 6, none⟩ = some (.int .i64 x.locals) /\ wz.cell? ⟨bx, 7, none⟩ = some (.slice xa2 x.code.length xd2) /\ wz.cell? ⟨bx, 8, none⟩ = some (.slice xa3 x.catches.length xd3) /\ wz.cell? ⟨w.heap.size, 0, none⟩ = some (.string ⟨y.name.toArray⟩) /\ wz.cell? ⟨w.heap.size, 1, none⟩ = some (.bool y.stat) /\ wz.cell? ⟨w.heap.size, 2, none⟩ = some (.bool y.abst) /\ wz.cell? ⟨w.heap.size, 3, none⟩ = some (.slice ya1 y.params.length yd1) /\ wz.cell? ⟨w.heap.size, 4, none⟩ = some (.int .i64 y.ret.kind) /\ wz.cell? ⟨w.heap.size, 5, none⟩ = some (.string ⟨y.ret.name.toArray⟩) /\ wz.cell? ⟨w.heap.size, 6, none⟩ = some (.int .i64 y.locals) /\ wz.cell? ⟨w.heap.size, 7, none⟩ = some (.slice ya2 y.code.length yd2) /\ wz.cell? ⟨w.heap.size, 8, none⟩ = some (.slice ya3 y.catches.length yd3)) := hide fun wz hb2 => by
  have hb := hb0.trans (hb2.mono hb0.size); exact ⟨(hb.cell hbn).trans hn, (hb.cell hbx).trans (hxc 0 _ rfl), (hb.cell hbx).trans (hxc 1 _ rfl), (hb.cell hbx).trans (hxc 2 _ rfl), (hb.cell hbx).trans (hxc 3 _ rfl), (hb.cell hbx).trans (hxc 4 _ rfl), (hb.cell hbx).trans (hxc 5 _ rfl), (hb.cell hbx).trans (hxc 6 _ rfl), (hb.cell hbx).trans (hxc 7 _ rfl), (hb.cell hbx).trans (hxc 8 _ rfl), cell_box ((hb2.block _ (Ow.lt_of_blk hy0)).trans hy0) 0, cell_box ((hb2.block _ (Ow.lt_of_blk hy0)).trans hy0) 1, cell_box ((hb2.block _ (Ow.lt_of_blk hy0)).trans hy0) 2, cell_box ((hb2.block _ (Ow.lt_of_blk hy0)).trans hy0) 3, cell_box ((hb2.block _ (Ow.lt_of_blk hy0)).trans hy0) 4, cell_box ((hb2.block _ (Ow.lt_of_blk hy0)).trans hy0) 5, cell_box ((hb2.block _ (Ow.lt_of_blk hy0)).trans hy0) 6, cell_box ((hb2.block _ (Ow.lt_of_blk hy0)).trans hy0) 7, cell_box ((hb2.block _ (Ow.lt_of_blk hy0)).trans hy0) 8⟩
 obtain ⟨r, hr⟩ : ∃ r, r = (x.name == y.name) := ⟨_, rfl⟩; have HR := hide hr; rw [<- hr]; clear hb0 hy0 hxc hn hr; go_enter Tryz.func85, Tryz.ntmps85; go_wp2_with fail; generalize w.alloc (.cells #[.string ⟨y.name.toArray⟩, .bool y.stat, .bool y.abst, .slice ya1 y.params.length yd1, .int .i64 y.ret.kind, .string ⟨y.ret.name.toArray⟩, .int .i64 y.locals, .slice ya2 y.code.length yd2, .slice ya3 y.catches.length yd3] 29) = wa at *
 have HBz : Hid (Below wa.heap.size wa wa.drew) := hide (Below.drew (Below.refl _ _))
 go_region_held3 (fun wz => wz.cell? ⟨bn, 0, none⟩ = some (.func (.func 63) #[] #[]) /\ wz.cell? ⟨bx, 0, none⟩ = some (.string ⟨x.name.toArray⟩) /\ wz.cell? ⟨bx, 1, none⟩ = some (.bool x.stat) /\ wz.cell? ⟨bx, 2, none⟩ = some (.bool x.abst) /\ wz.cell? ⟨bx, 3, none⟩ = some (.slice xa1 x.params.length xd1) /\ wz.cell? ⟨bx, 4, none⟩ = some (.int .i64 x.ret.kind) /\ wz.cell? ⟨bx, 5, none⟩ = some (.string ⟨x.ret.name.toArray⟩) /\ wz.cell? ⟨bx, 6, none⟩ = some (.int .i64 x.locals) /\ wz.cell? ⟨bx, 7, none⟩ = some (.slice xa2 x.code.length xd2) /\ wz.cell? ⟨bx, 8, none⟩ = some (.slice xa3 x.catches.length xd3) /\ wz.cell? ⟨w.heap.size, 0, none⟩ = some (.string ⟨y.name.toArray⟩) /\ wz.cell? ⟨w.heap.size, 1, none⟩ = some (.bool y.stat) /\ wz.cell? ⟨w.heap.size, 2, none⟩ = some (.bool y.abst) /\ wz.cell? ⟨w.heap.size, 3, none⟩ = some (.slice ya1 y.params.length yd1) /\ wz.cell? ⟨w.heap.size, 4, none⟩ = some (.int .i64 y.ret.kind) /\ wz.cell? ⟨w.heap.size, 5, none⟩ = some (.string ⟨y.ret.name.toArray⟩) /\ wz.cell? ⟨w.heap.size, 6, none⟩ = some (.int .i64 y.locals) /\ wz.cell? ⟨w.heap.size, 7, none⟩ = some (.slice ya2 y.code.length yd2) /\ wz.cell? ⟨w.heap.size, 8, none⟩ = some (.slice ya3 y.catches.length yd3)) (exact HS.out _ HBz.out)
  (first
    | (go_at_call 63
       refine (HTx.out _).mono ?_; rintro e wn ⟨rfl, hbn'⟩; have HBz := hide (HBz.out.trans (hbn'.mono HBz.out.size))
       clear hbn')
    | (go_at_call 63
       refine (HTy.out _).mono ?_; rintro e wn ⟨rfl, hbn'⟩; have HBz := hide (HBz.out.trans (hbn'.mono HBz.out.size))
       clear hbn')
    | fail)
 have HB2 := hide (HB.out.trans (HBz.out.mono HB.out.size)); clear HBz HS HTx HTy; go_wp2_with fail; go_ret; refine ⟨?_, HB2.out⟩; rw [HR.out]
 first | rfl | simp
theorem repM_any (wp : World) (l : List Pp.XMth) (v : Value) (w : World) (h : RowX w 9 (MthX wp) v l) (hn : l.length <= 100000) :
 Calls Tryz.prog 62 #[v, .func (.func 63) #[] #[]] w fun e w' => Hr.Yes (¬ (l.map (·.name)).Nodup) e /\ Below w.heap.size w w' := by
 have HR := hide h; obtain ⟨a, c, rfl, hcap⟩ := h.len; have HRk := hide (fun (k : Nat) (hk : k <= l.length) => h.take hk); clear h; obtain ⟨m, hm⟩ : ∃ q, q = l.length := ⟨_, rfl⟩; have HN := hide hm; rw [<- hm] at HR hn HRk hcap ⊢; clear hm; have hm1 : (m : Int) <= 100000 := by omega
 have HB0 := hide ((Below.refl w.heap.size w).alloc (Nat.le_refl _) (.cells #[.func (.func 63) #[] #[]] 134)); have HX0 := hide (heap_alloc_new w (.cells #[.func (.func 63) #[] #[]] 134)); have hmf : ∀ (fn : Fn) (first cap : Array Value) (w : World), (Instr.makeFunc fn first cap).run Tryz.prog w = .ok (.func fn first cap) w := fun _ _ _ _ => rfl
 go_enter Tryz.func62, Tryz.ntmps62; go_wp2_with fail; generalize w.alloc (.cells #[.func (.func 63) #[] #[]] 134) = wa at *
 go_loopw [9] (fun i wr => ∃ k : Nat, k <= m /\ i = .int .i64 k /\ Hid (Below wa.heap.size wa wr) /\ Hid (((l.take k).map (·.name)).Nodup)) (fun i _ => m - (intOf i).toNat)
 case atStart => exact ⟨0, Nat.zero_le _, rfl, hide (Below.refl _ _), hide (by simp)⟩
 case round =>
  obtain ⟨k, hk, rfl, HB, HNo⟩ := hrel; have HBw := hide (HB0.out.trans (HB.out.mono HB0.out.size)); by_cases hlt : k < m
  · obtain ⟨x, hx⟩ : ∃ x, l[k]? = some x := ⟨l[k]'(by rw [<- HN.out]; exact hlt), List.getElem?_eq_getElem _⟩
    obtain ⟨g, o, rfl, ys, wf, hc⟩ := Ow.row_at' HR.out hx; have hG := hide (hc wr HBw.out); have HY := hide (fun hp => Ly.nodup_not (f := (·.name)) hx hp); have HZ := hide (fun hp => Ly.nodup_step (f := (·.name)) HNo.out hx hp); have HWf := hide wf; clear hc hx HNo; obtain ⟨vp, vc, vk, rfl, x1, x2, x3, _⟩ := wf; obtain ⟨xa1, xd1, rfl, _⟩ := x1.len; obtain ⟨xa2, xd2, rfl, _⟩ := x2.len; obtain ⟨xa3, xd3, rfl, _⟩ := x3.len; clear x1 x2 x3; simp only [mthXL] at HWf; have r0 := hG.out 0 _ rfl; have r1 := hG.out 1 _ rfl; have r2 := hG.out 2 _ rfl; have r3 := hG.out 3 _ rfl; have r4 := hG.out 4 _ rfl; have r5 := hG.out 5 _ rfl; have r6 := hG.out 6 _ rfl; have r7 := hG.out 7 _ rfl; have r8 := hG.out 8 _ rfl; rw [Nat.add_zero] at r0
    try dsimp only at r0 r1 r2 r3 r4 r5 r6 r7 r8
    clear hG; have hlt' : (k : Int) < (m : Int) := by omega
    have hA : Below wr.heap.size wr (wr.alloc (.cells #[.string ⟨x.name.toArray⟩, .bool x.stat, .bool x.abst, .slice xa1 x.params.length xd1, .int .i64 x.ret.kind, .string ⟨x.ret.name.toArray⟩, .int .i64 x.locals, .slice xa2 x.code.length xd2, .slice xa3 x.catches.length xd3] 29)) := (Below.refl _ _).alloc (Nat.le_refl _) _; have HBA := hide (HB.out.trans (hA.mono HB.out.size)); have HBwA := hide (HBw.out.trans (hA.mono HBw.out.size)); have hbx := heap_alloc_new wr (.cells #[.string ⟨x.name.toArray⟩, .bool x.stat, .bool x.abst, .slice xa1 x.params.length xd1, .int .i64 x.ret.kind, .string ⟨x.ret.name.toArray⟩, .int .i64 x.locals, .slice xa2 x.code.length xd2, .slice xa3 x.catches.length xd3] 29); have HX1 := hide ((HBA.out.block _ (Ow.lt_of_blk HX0.out)).trans HX0.out)
    have HCf := hide (cfMt_any wp (l.take k) (.slice (some ⟨g, o, none⟩) k c) ⟨w.heap.size, 0, none⟩ ⟨wr.heap.size, 0, none⟩ (fun y => x.name == y.name) _ ((HRk.out k hk).on HBwA.out fun _ _ h => h) (by rw [List.length_take]; omega) fun y ys _ hp wx hb =>
     repM1_any wp x y _ ys w.heap.size wr.heap.size wx HWf.out hp (Nat.lt_of_lt_of_le (Ow.lt_of_blk HX1.out) hb.size) (Nat.lt_of_lt_of_le (Ow.lt_of_blk hbx) hb.size) ((cell_box ((hb.block _ (Ow.lt_of_blk HX1.out)).trans HX1.out) 0).trans rfl) (fun j u hu => (cell_box ((hb.block _ (Ow.lt_of_blk hbx)).trans hbx) j).trans (by simpa using hu)))
    have hkc : k <= c := Nat.le_trans hk hcap; have hkc' : (k : Int) <= (c : Int) := by omega
    generalize (l.take k).any (fun y => x.name == y.name) = px at HY HZ HCf; clear hbx hA HX1 HWf; go_wp2_with fail; refine HCf.out.mono ?_; rintro e w1 ⟨rfl, hb1⟩; have HB1 := hide (HBA.out.trans (hb1.mono HBA.out.size)); clear HCf hb1; cases px with
    | true =>
      have HY' := hide (HY.out rfl); clear HY HZ; go_wp2_with fail; go_ret; exact ⟨.yes HY'.out, HB0.out.trans (HB1.out.mono HB0.out.size)⟩
    | false =>
      have HZ' := hide (HZ.out rfl); clear HY HZ; go_wp2_with fail
      go_roundw
      case rel => exact ⟨k + 1, by omega, by go_num, HB1, HZ'⟩
      case measure => simp [intOf]; omega
  · have HZ : Hid ((l.map (·.name)).Nodup) := hide (by
     have := HNo.out
     rwa [List.take_of_length_le (by rw [<- HN.out]; omega)] at this)
    have hnl : ¬ ((k : Int) < (m : Int)) := by omega
    clear HNo; go_wp2_with fail; go_ret; exact ⟨.no fun h => h HZ.out, HBw.out⟩
namespace Hr
def BasX (c : Pp.XCls) (ys : List Value) : Prop := ys = clsXL c (.slice none 0 0) (.slice none 0 0) (.slice none 0 0) /\ (c.ifaces = [] /\ c.fields = [] /\ c.methods = []) /\ c.name.length <= maxLen /\ c.super.length <= maxLen
theorem row_nil {α : Type} {w : World} {sz : Nat} {P : α -> List Value -> Prop} : RowX w sz P (.slice none 0 0) ([] : List α) := ⟨none, 0, rfl, Nat.le_refl _, .inl rfl⟩
theorem BasX.x {c : Pp.XCls} {ys : List Value} (h : BasX c ys) (w : World) : ClsX w c ys := by
 obtain ⟨rfl, ⟨h1, h2, h3⟩, h4, h5⟩ := h; refine ⟨_, _, _, rfl, ?_, ?_, ?_, h4, h5, ?_, ?_, ?_⟩
 · rw [h1]; exact row_nil
 · rw [h2]; exact row_nil
 · rw [h3]; exact row_nil
 · rw [h1]; exact Nat.zero_le _
 · rw [h2]; exact Nat.zero_le _
 · rw [h3]; exact Nat.zero_le _
theorem BasX.o {c : Pp.XCls} {ys : List Value} (h : BasX c ys) (w : World) (base : Nat) : Ow.ClsO w base c ys := by
 obtain ⟨rfl, ⟨h1, h2, h3⟩, h4, h5⟩ := h; refine ⟨_, _, _, rfl, ?_, ?_, ?_, h4, h5, ?_, ?_, ?_⟩
 · rw [h1]; exact Ow.OwnX.nil _ _ _ _ _
 · rw [h2]; exact Ow.OwnX.nil _ _ _ _ _
 · rw [h3]; exact Ow.OwnX.nil _ _ _ _ _
 · rw [h1]; exact Nat.zero_le _
 · rw [h2]; exact Nat.zero_le _
 · rw [h3]; exact Nat.zero_le _
theorem shp_bas : Ow.Shp BasX 6 := by
 rintro x ys ⟨rfl, _⟩; exact ⟨rfl, by intro u hu; simp [clsXL] at hu; rcases hu with rfl | rfl | rfl | rfl <;> rfl⟩
theorem bas_plain {n s : Pp.Bs} (h1 : n.length <= maxLen) (h2 : s.length <= maxLen) : BasX (plain n s) [.string ⟨n.toArray⟩, .bool false, .string ⟨s.toArray⟩, .slice none 0 0, .slice none 0 0, .slice none 0 0] := ⟨rfl, ⟨rfl, rfl, rfl⟩, h1, h2⟩
theorem ix0 (w : World) : (Instr.index 105 (.agg #[.string ⟨#[78, 117, 108, 108, 69, 114, 114, 111, 114]⟩, .string ⟨#[82, 97, 110, 103, 101, 69, 114, 114, 111, 114]⟩, .string ⟨#[67, 97, 115, 116, 69, 114, 114, 111, 114]⟩, .string ⟨#[78, 117, 109, 69, 114, 114, 111, 114]⟩, .string ⟨#[83, 105, 122, 101, 69, 114, 114, 111, 114]⟩, .string ⟨#[68, 101, 112, 116, 104, 69, 114, 114, 111, 114]⟩]) (.int .i64 0)).run Tryz.prog w = .ok (.string ⟨#[78, 117, 108, 108, 69, 114, 114, 111, 114]⟩) w := by kernel_rfl
theorem ix1 (w : World) : (Instr.index 105 (.agg #[.string ⟨#[78, 117, 108, 108, 69, 114, 114, 111, 114]⟩, .string ⟨#[82, 97, 110, 103, 101, 69, 114, 114, 111, 114]⟩, .string ⟨#[67, 97, 115, 116, 69, 114, 114, 111, 114]⟩, .string ⟨#[78, 117, 109, 69, 114, 114, 111, 114]⟩, .string ⟨#[83, 105, 122, 101, 69, 114, 114, 111, 114]⟩, .string ⟨#[68, 101, 112, 116, 104, 69, 114, 114, 111, 114]⟩]) (.int .i64 1)).run Tryz.prog w = .ok (.string ⟨#[82, 97, 110, 103, 101, 69, 114, 114, 111, 114]⟩) w := by kernel_rfl
theorem ix2 (w : World) : (Instr.index 105 (.agg #[.string ⟨#[78, 117, 108, 108, 69, 114, 114, 111, 114]⟩, .string ⟨#[82, 97, 110, 103, 101, 69, 114, 114, 111, 114]⟩, .string ⟨#[67, 97, 115, 116, 69, 114, 114, 111, 114]⟩, .string ⟨#[78, 117, 109, 69, 114, 114, 111, 114]⟩, .string ⟨#[83, 105, 122, 101, 69, 114, 114, 111, 114]⟩, .string ⟨#[68, 101, 112, 116, 104, 69, 114, 114, 111, 114]⟩]) (.int .i64 2)).run Tryz.prog w = .ok (.string ⟨#[67, 97, 115, 116, 69, 114, 114, 111, 114]⟩) w := by kernel_rfl
theorem ix3 (w : World) : (Instr.index 105 (.agg #[.string ⟨#[78, 117, 108, 108, 69, 114, 114, 111, 114]⟩, .string ⟨#[82, 97, 110, 103, 101, 69, 114, 114, 111, 114]⟩, .string ⟨#[67, 97, 115, 116, 69, 114, 114, 111, 114]⟩, .string ⟨#[78, 117, 109, 69, 114, 114, 111, 114]⟩, .string ⟨#[83, 105, 122, 101, 69, 114, 114, 111, 114]⟩, .string ⟨#[68, 101, 112, 116, 104, 69, 114, 114, 111, 114]⟩]) (.int .i64 3)).run Tryz.prog w = .ok (.string ⟨#[78, 117, 109, 69, 114, 114, 111, 114]⟩) w := by kernel_rfl
theorem ix4 (w : World) : (Instr.index 105 (.agg #[.string ⟨#[78, 117, 108, 108, 69, 114, 114, 111, 114]⟩, .string ⟨#[82, 97, 110, 103, 101, 69, 114, 114, 111, 114]⟩, .string ⟨#[67, 97, 115, 116, 69, 114, 114, 111, 114]⟩, .string ⟨#[78, 117, 109, 69, 114, 114, 111, 114]⟩, .string ⟨#[83, 105, 122, 101, 69, 114, 114, 111, 114]⟩, .string ⟨#[68, 101, 112, 116, 104, 69, 114, 114, 111, 114]⟩]) (.int .i64 4)).run Tryz.prog w = .ok (.string ⟨#[83, 105, 122, 101, 69, 114, 114, 111, 114]⟩) w := by kernel_rfl
theorem ix5 (w : World) : (Instr.index 105 (.agg #[.string ⟨#[78, 117, 108, 108, 69, 114, 114, 111, 114]⟩, .string ⟨#[82, 97, 110, 103, 101, 69, 114, 114, 111, 114]⟩, .string ⟨#[67, 97, 115, 116, 69, 114, 114, 111, 114]⟩, .string ⟨#[78, 117, 109, 69, 114, 114, 111, 114]⟩, .string ⟨#[83, 105, 122, 101, 69, 114, 114, 111, 114]⟩, .string ⟨#[68, 101, 112, 116, 104, 69, 114, 114, 111, 114]⟩]) (.int .i64 5)).run Tryz.prog w = .ok (.string ⟨#[68, 101, 112, 116, 104, 69, 114, 114, 111, 114]⟩) w := by kernel_rfl
end Hr
theorem standing_any (w : World) :
 Calls Tryz.prog 25 #[] w fun e w' => ∃ v, e = .returned v /\ Ow.OwnX w' w.heap.size 36 6 Hr.BasX v Hr.base /\ Below w.heap.size w w' := by
 obtain ⟨j0, hj, hj0, hj1, hj2⟩ := Ow.info_of Ow.i_cls
 have HO0 : Hid (Ow.OwnX (w.alloc (.cells #[.string ⟨#[79, 98, 106, 101, 99, 116]⟩, .bool false, .string ⟨#[]⟩, .slice none 0 0, .slice none 0 0, .slice none 0 0, .string ⟨#[69, 114, 114, 111, 114]⟩, .bool false, .string ⟨#[79, 98, 106, 101, 99, 116]⟩, .slice none 0 0, .slice none 0 0, .slice none 0 0] 36)) w.heap.size 36 6 Hr.BasX (.slice (some ⟨w.heap.size, 0, none⟩) 2 2) (Hr.base.take 2)) := hide
  ⟨_, ⟨[.string ⟨#[79, 98, 106, 101, 99, 116]⟩, .bool false, .string ⟨#[]⟩, .slice none 0 0, .slice none 0 0, .slice none 0 0], _, rfl, Hr.bas_plain (by decide) (by decide), [.string ⟨#[69, 114, 114, 111, 114]⟩, .bool false, .string ⟨#[79, 98, 106, 101, 99, 116]⟩, .slice none 0 0, .slice none 0 0, .slice none 0 0], _, rfl, Hr.bas_plain (by decide) (by decide), rfl⟩, rfl, .inr ⟨w.heap.size, 2, _, rfl, Nat.le_refl _, heap_alloc_new w _, Nat.le_refl _, by decide, rfl, rfl⟩⟩
 go_enter Tryz.func25, Tryz.ntmps25; go_wp2_with fail
 go_loopw [1, 8] (fun v i wr => ∃ k : Nat, k <= 6 /\ i = .int .i64 k /\ Hid (Below w.heap.size w wr) /\ Hid (Ow.OwnX wr w.heap.size 36 6 Hr.BasX v (Hr.base.take (2 + k)))) (fun v i _ => 6 - (intOf i).toNat)
 case atStart => exact ⟨0, Nat.zero_le _, rfl, hide ((Below.refl _ _).alloc (Nat.le_refl _) _), HO0⟩
 case round =>
  obtain ⟨k, hk, rfl, HB, HO⟩ := hrel; clear HO0; obtain ⟨la, lc, rfl⟩ := HO.out.shape; by_cases hlt : k < 6
  · have hlen : Hid ((Hr.base.take (2 + k)).length = 2 + k) := hide (by rw [List.length_take]; have : Hr.base.length = 8 := rfl; omega)
    have HT : Hid (∀ c, Hr.base[2 + k]? = some c -> Hr.base.take (2 + (k + 1)) = Hr.base.take (2 + k) ++ [c]) := hide fun c hc => by rw [<- Nat.add_assoc, List.take_add_one, hc]; rfl
    have hcs : k = 0 \/ k = 1 \/ k = 2 \/ k = 3 \/ k = 4 \/ k = 5 := by omega
    generalize Hr.base.take (2 + k) = acc at *
    rcases hcs with rfl | rfl | rfl | rfl | rfl | rfl
    · have hix := Hr.ix0
      (try simp only [Int.cast_ofNat_Int, Int.natCast_one, Int.natCast_zero])
      go_wp2_with (at_builtin; refine Ow.wpList_app rfl (.tmp 11) (.tmp 14) 37 rfl Tryz.underlying37 hj hj0 hj1 hj2 (by decide) Hr.shp_bas rfl (HO.out.on ((Below.refl _ _).alloc (Nat.le_refl _) _) fun _ _ h => h) rfl (Hr.row_one (sz := 6) (heap_alloc_new wr _) (Hr.bas_plain (by decide) (by decide))) ?c1 (by decide) ?c2 ?_)
      case c1 => have := hlen.out; simp; omega
      case c2 => have := HB.out.size; simp; omega
      · intro v' w10 hown hgrow
        have HB10 := hide ((HB.out.alloc HB.out.size _).trans (Ow.bel_grown (HO.out.on ((Below.refl _ _).alloc (Nat.le_refl _) _) fun _ _ h => h) (by have := HB.out.size; simp; omega) hgrow))
        have HO10 : Hid (Ow.OwnX w10 w.heap.size 36 6 Hr.BasX v' (Hr.base.take (2 + (0 + 1)))) := hide (by rw [HT.out _ rfl]; exact hown)
        clear hown hgrow HO HB HT; go_wp2_with fail
        go_roundw
        case rel => first | exact ⟨_, by decide, by go_num, HB10, HO10⟩ | ((repeat apply Exists.intro); exact ⟨⟨_, by decide, by go_num, HB10, HO10⟩, rfl⟩)
        case measure => simp [intOf]
    · have hix := Hr.ix1
      (try simp only [Int.cast_ofNat_Int, Int.natCast_one, Int.natCast_zero])
      go_wp2_with (at_builtin; refine Ow.wpList_app rfl (.tmp 11) (.tmp 14) 37 rfl Tryz.underlying37 hj hj0 hj1 hj2 (by decide) Hr.shp_bas rfl (HO.out.on ((Below.refl _ _).alloc (Nat.le_refl _) _) fun _ _ h => h) rfl (Hr.row_one (sz := 6) (heap_alloc_new wr _) (Hr.bas_plain (by decide) (by decide))) ?c1 (by decide) ?c2 ?_)
      case c1 => have := hlen.out; simp; omega
      case c2 => have := HB.out.size; simp; omega
      · intro v' w10 hown hgrow
        have HB10 := hide ((HB.out.alloc HB.out.size _).trans (Ow.bel_grown (HO.out.on ((Below.refl _ _).alloc (Nat.le_refl _) _) fun _ _ h => h) (by have := HB.out.size; simp; omega) hgrow))
        have HO10 : Hid (Ow.OwnX w10 w.heap.size 36 6 Hr.BasX v' (Hr.base.take (2 + (1 + 1)))) := hide (by rw [HT.out _ rfl]; exact hown)
        clear hown hgrow HO HB HT; go_wp2_with fail
        go_roundw
        case rel => first | exact ⟨_, by decide, by go_num, HB10, HO10⟩ | ((repeat apply Exists.intro); exact ⟨⟨_, by decide, by go_num, HB10, HO10⟩, rfl⟩)
        case measure => simp [intOf]
    · have hix := Hr.ix2
      (try simp only [Int.cast_ofNat_Int, Int.natCast_one, Int.natCast_zero])
      go_wp2_with (at_builtin; refine Ow.wpList_app rfl (.tmp 11) (.tmp 14) 37 rfl Tryz.underlying37 hj hj0 hj1 hj2 (by decide) Hr.shp_bas rfl (HO.out.on ((Below.refl _ _).alloc (Nat.le_refl _) _) fun _ _ h => h) rfl (Hr.row_one (sz := 6) (heap_alloc_new wr _) (Hr.bas_plain (by decide) (by decide))) ?c1 (by decide) ?c2 ?_)
      case c1 => have := hlen.out; simp; omega
      case c2 => have := HB.out.size; simp; omega
      · intro v' w10 hown hgrow
        have HB10 := hide ((HB.out.alloc HB.out.size _).trans (Ow.bel_grown (HO.out.on ((Below.refl _ _).alloc (Nat.le_refl _) _) fun _ _ h => h) (by have := HB.out.size; simp; omega) hgrow))
        have HO10 : Hid (Ow.OwnX w10 w.heap.size 36 6 Hr.BasX v' (Hr.base.take (2 + (2 + 1)))) := hide (by rw [HT.out _ rfl]; exact hown)
        clear hown hgrow HO HB HT; go_wp2_with fail
        go_roundw
        case rel => first | exact ⟨_, by decide, by go_num, HB10, HO10⟩ | ((repeat apply Exists.intro); exact ⟨⟨_, by decide, by go_num, HB10, HO10⟩, rfl⟩)
        case measure => simp [intOf]
    · have hix := Hr.ix3
      (try simp only [Int.cast_ofNat_Int, Int.natCast_one, Int.natCast_zero])
      go_wp2_with (at_builtin; refine Ow.wpList_app rfl (.tmp 11) (.tmp 14) 37 rfl Tryz.underlying37 hj hj0 hj1 hj2 (by decide) Hr.shp_bas rfl (HO.out.on ((Below.refl _ _).alloc (Nat.le_refl _) _) fun _ _ h => h) rfl (Hr.row_one (sz := 6) (heap_alloc_new wr _) (Hr.bas_plain (by decide) (by decide))) ?c1 (by decide) ?c2 ?_)
      case c1 => have := hlen.out; simp; omega
      case c2 => have := HB.out.size; simp; omega
      · intro v' w10 hown hgrow
        have HB10 := hide ((HB.out.alloc HB.out.size _).trans (Ow.bel_grown (HO.out.on ((Below.refl _ _).alloc (Nat.le_refl _) _) fun _ _ h => h) (by have := HB.out.size; simp; omega) hgrow))
        have HO10 : Hid (Ow.OwnX w10 w.heap.size 36 6 Hr.BasX v' (Hr.base.take (2 + (3 + 1)))) := hide (by rw [HT.out _ rfl]; exact hown)
        clear hown hgrow HO HB HT; go_wp2_with fail
        go_roundw
        case rel => first | exact ⟨_, by decide, by go_num, HB10, HO10⟩ | ((repeat apply Exists.intro); exact ⟨⟨_, by decide, by go_num, HB10, HO10⟩, rfl⟩)
        case measure => simp [intOf]
    · have hix := Hr.ix4
      (try simp only [Int.cast_ofNat_Int, Int.natCast_one, Int.natCast_zero])
      go_wp2_with (at_builtin; refine Ow.wpList_app rfl (.tmp 11) (.tmp 14) 37 rfl Tryz.underlying37 hj hj0 hj1 hj2 (by decide) Hr.shp_bas rfl (HO.out.on ((Below.refl _ _).alloc (Nat.le_refl _) _) fun _ _ h => h) rfl (Hr.row_one (sz := 6) (heap_alloc_new wr _) (Hr.bas_plain (by decide) (by decide))) ?c1 (by decide) ?c2 ?_)
      case c1 => have := hlen.out; simp; omega
      case c2 => have := HB.out.size; simp; omega
      · intro v' w10 hown hgrow
        have HB10 := hide ((HB.out.alloc HB.out.size _).trans (Ow.bel_grown (HO.out.on ((Below.refl _ _).alloc (Nat.le_refl _) _) fun _ _ h => h) (by have := HB.out.size; simp; omega) hgrow))
        have HO10 : Hid (Ow.OwnX w10 w.heap.size 36 6 Hr.BasX v' (Hr.base.take (2 + (4 + 1)))) := hide (by rw [HT.out _ rfl]; exact hown)
        clear hown hgrow HO HB HT; go_wp2_with fail
        go_roundw
        case rel => first | exact ⟨_, by decide, by go_num, HB10, HO10⟩ | ((repeat apply Exists.intro); exact ⟨⟨_, by decide, by go_num, HB10, HO10⟩, rfl⟩)
        case measure => simp [intOf]
    · have hix := Hr.ix5
      (try simp only [Int.cast_ofNat_Int, Int.natCast_one, Int.natCast_zero])
      go_wp2_with (at_builtin; refine Ow.wpList_app rfl (.tmp 11) (.tmp 14) 37 rfl Tryz.underlying37 hj hj0 hj1 hj2 (by decide) Hr.shp_bas rfl (HO.out.on ((Below.refl _ _).alloc (Nat.le_refl _) _) fun _ _ h => h) rfl (Hr.row_one (sz := 6) (heap_alloc_new wr _) (Hr.bas_plain (by decide) (by decide))) ?c1 (by decide) ?c2 ?_)
      case c1 => have := hlen.out; simp; omega
      case c2 => have := HB.out.size; simp; omega
      · intro v' w10 hown hgrow
        have HB10 := hide ((HB.out.alloc HB.out.size _).trans (Ow.bel_grown (HO.out.on ((Below.refl _ _).alloc (Nat.le_refl _) _) fun _ _ h => h) (by have := HB.out.size; simp; omega) hgrow))
        have HO10 : Hid (Ow.OwnX w10 w.heap.size 36 6 Hr.BasX v' (Hr.base.take (2 + (5 + 1)))) := hide (by rw [HT.out _ rfl]; exact hown)
        clear hown hgrow HO HB HT; go_wp2_with fail
        go_roundw
        case rel => first | exact ⟨_, by decide, by go_num, HB10, HO10⟩ | ((repeat apply Exists.intro); exact ⟨⟨_, by decide, by go_num, HB10, HO10⟩, rfl⟩)
        case measure => simp [intOf]
  · have hk6 : k = 6 := by omega
    subst hk6; have HOe : Hid (Ow.OwnX wr w.heap.size 36 6 Hr.BasX (.slice la (List.take (2 + 6) Hr.base).length lc) Hr.base) := HO; generalize (List.take (2 + 6) Hr.base).length = nl at *
    go_wp2_with fail; go_ret; exact ⟨_, rfl, HOe.out, HB.out⟩
theorem fresh_any (s : List UInt8) (hs : s.length <= maxLen) (w : World) (ht : TabS w) :
 Calls Tryz.prog 74 #[.string ⟨s.toArray⟩] w fun e w' => e = .returned (.bool (Pp.freshB s)) /\ w' = w := by
 have hN := hide (Name_any ⟨s.toArray⟩ (by simpa [ByteArray.size] using hs) w)
 have hK := hide (Kept_any s w ht); have hF : Hid (Pp.freshB s = (Lx.nameL s && !Pp.keptL s)) := rfl; obtain ⟨b, hb⟩ : ∃ b, b = Lx.nameL s := ⟨_, rfl⟩; have hN2 : Hid (Calls Tryz.prog 92 #[.string ⟨s.toArray⟩] w fun e w' => e = .returned (.bool b) /\ w' = w) := by rw [hb]; exact hN
 rw [<- hb] at hF; generalize (⟨s.toArray⟩ : ByteArray) = S at *
 clear hN ht hb; cases b with
 | false =>
   go_enter Tryz.func74, Tryz.ntmps74; go_wp2_with fail; refine hN2.out.mono ?_; rintro e wq ⟨rfl, hwq⟩; subst hwq; go_wp2_with fail; go_ret; exact ⟨by rw [hF.out]; rfl, rfl⟩
 | true =>
   go_enter Tryz.func74, Tryz.ntmps74; go_wp2_with fail; refine hN2.out.mono ?_; rintro e wq ⟨rfl, hwq⟩; have hwq := hwq.symm; subst hwq; go_wp2_with fail; refine hK.out.mono ?_; rintro e wq ⟨rfl, hwq⟩; have hwq := hwq.symm; subst hwq; go_wp2_with fail; go_ret; exact ⟨by rw [hF.out]; rfl, rfl⟩
theorem within_any (n lo hi : Int) (w : World) :
 Calls Tryz.prog 109 #[.int .i64 n, .int .i64 lo, .int .i64 hi] w fun e w' => e = .returned (.bool (Pp.withinB n lo hi)) /\ w' = w := by
 go_enter Tryz.func109, Tryz.ntmps109; by_cases h1 : lo <= n
 · go_wp2_with fail
   go_ret; exact ⟨ret_bool (by simp [Pp.withinB, h1]), rfl⟩
 · go_wp2_with fail
   go_ret; exact ⟨ret_bool (by simp [Pp.withinB]; omega), rfl⟩
theorem isArgument_any (s : List UInt8) (has : Bool) (hs : s.length <= maxLen) (w : World) (ht : TabS w) :
 Calls Tryz.prog 123 #[.string ⟨s.toArray⟩, .bool has] w fun e w' => e = .returned (.bool (if has = true then Pp.freshB s else s == [])) /\ w' = w := by
 have hF := hide (fresh_any s hs w ht); clear ht; cases has with
 | true =>
   go_enter Tryz.func123, Tryz.ntmps123; go_wp2_with fail; refine hF.out.mono ?_; rintro e wq ⟨rfl, hwq⟩; have hwq := hwq.symm; subst hwq; go_wp2_with fail; go_ret; exact ⟨rfl, rfl⟩
 | false =>
   go_enter Tryz.func123, Tryz.ntmps123; go_wp2_with fail; go_ret; exact ⟨ret_bool (by cases s <;> simp), rfl⟩
theorem isType_any (t : Pp.Ty) (hs : t.name.length <= maxLen) (w : World) (ht : TabS w) :
 Calls Tryz.prog 94 #[.agg #[.int .i64 t.kind, .string ⟨t.name.toArray⟩]] w fun e w' => e = .returned (.bool (Pp.typeB t)) /\ Below w.heap.size w w' := by
 obtain ⟨k, n⟩ := t; simp only at hs ⊢; have hF := hide (fun w' (hb : Below w.heap.size w w') => fresh_any n hs w' (ht.below hb)); have hE : Hid (n = [] ↔ (⟨n.toArray⟩ : ByteArray) = ⟨#[]⟩) := hide ⟨fun h => by rw [h], fun h => by have := congrArg (fun x : ByteArray => x.data.toList) h; simpa using this⟩
 clear ht; by_cases h1 : k = 1 \/ k = 2 \/ k = 4
 · have hT : Hid (Pp.typeB ⟨k, n⟩ = (n == [])) := hide (by unfold Pp.typeB; rw [if_pos h1])
   rcases h1 with rfl | rfl | rfl
   all_goals (go_enter Tryz.func94, Tryz.ntmps94; go_wp2_with fail; go_ret; exact ⟨ret_bool (by rw [hT.out]; cases n <;> simp), (Below.refl _ _).alloc (Nat.le_refl _) _⟩)
 · by_cases h2 : k = 3 \/ k = 5
   · have hT : Hid (Pp.typeB ⟨k, n⟩ = Pp.freshB n) := hide (by unfold Pp.typeB; rw [if_neg h1, if_pos h2])
     rcases h2 with rfl | rfl
     all_goals (clear h1; go_enter Tryz.func94, Tryz.ntmps94; go_wp2_with fail; refine (hF.out _ ((Below.refl _ _).alloc (Nat.le_refl _) _)).mono ?_; rintro e wq ⟨rfl, hwq⟩; subst hwq; go_wp2_with fail; go_ret; exact ⟨by rw [hT.out]; rfl, (Below.refl _ _).alloc (Nat.le_refl _) _⟩)
   · have hT : Hid (Pp.typeB ⟨k, n⟩ = false) := hide (by unfold Pp.typeB; rw [if_neg h1, if_neg h2])
     have e1 : (k == 1) = false := by simp; omega
     have e2 : (k == 2) = false := by simp; omega
     have e3 : (k == 3) = false := by simp; omega
     have e4 : (k == 4) = false := by simp; omega
     have e5 : (k == 5) = false := by simp; omega
     clear h1 h2; go_enter Tryz.func94, Tryz.ntmps94; go_wp2_with fail; go_ret; exact ⟨by rw [hT.out]; rfl, (Below.refl _ _).alloc (Nat.le_refl _) _⟩
theorem isField_any (f : Pp.Fld) (h1 : f.name.length <= maxLen) (h2 : f.ty.name.length <= maxLen) (w : World) (ht : TabS w) :
 Calls Tryz.prog 78 #[.agg #[.string ⟨f.name.toArray⟩, .int .i64 f.ty.kind, .string ⟨f.ty.name.toArray⟩, .bool f.stat]] w fun e w' => e = .returned (.bool (Pp.freshB f.name && Pp.typeB f.ty)) /\ Below w.heap.size w w' := by
 obtain ⟨n, ty, st⟩ := f; simp only at h1 h2 ⊢; have hF := hide (fun w' (hb : Below w.heap.size w w') => fresh_any n h1 w' (ht.below hb)); have hT := hide (fun w' (hb : Below w.heap.size w w') => isType_any ty h2 w' (ht.below hb)); clear ht h1 h2; generalize (⟨n.toArray⟩ : ByteArray) = S at *
 generalize (⟨ty.name.toArray⟩ : ByteArray) = S2 at *
 generalize ty.kind = kd at *
 generalize Pp.typeB ty = b2 at *
 generalize Pp.freshB n = b1 at *
 cases b1 with
 | false =>
   go_enter Tryz.func78, Tryz.ntmps78; go_wp2_with fail; refine (hF.out _ ((Below.refl _ _).alloc (Nat.le_refl _) _)).mono ?_; rintro e wq ⟨rfl, hwq⟩; subst hwq; go_wp2_with fail; go_ret; exact ⟨rfl, (Below.refl _ _).alloc (Nat.le_refl _) _⟩
 | true =>
   go_enter Tryz.func78, Tryz.ntmps78; go_wp2_with fail; refine (hF.out _ ((Below.refl _ _).alloc (Nat.le_refl _) _)).mono ?_; rintro e wq ⟨rfl, hwq⟩; subst hwq; go_wp2_with fail; refine (hT.out _ ((Below.refl _ _).alloc (Nat.le_refl _) _)).mono ?_; rintro e w2 ⟨rfl, hb2⟩; go_wp2_with fail; go_ret; exact ⟨by simp, ((Below.refl _ _).alloc (Nat.le_refl _) _).trans (hb2.mono (by simp))⟩
theorem argsOf_in (op : Int) (h0 : 0 <= op) (h1 : op < 44) (w : World) :
 Calls Tryz.prog 121 #[.int .i64 op] w fun e w' => e = .returned (.agg #[.bool (Pp.argsX op).1, .int .i64 (Pp.argsX op).2.1, .int .i64 (Pp.argsX op).2.2.1, .int .i64 (Pp.argsX op).2.2.2]) /\ Below w.heap.size w w' := by
 rcases (show op = 0 \/ op = 1 \/ op = 2 \/ op = 3 \/ op = 4 \/ op = 5 \/ op = 6 \/ op = 7 \/ op = 8 \/ op = 9 \/ op = 10 \/ op = 11 \/ op = 12 \/ op = 13 \/ op = 14 \/ op = 15 \/ op = 16 \/ op = 17 \/ op = 18 \/ op = 19 \/ op = 20 \/ op = 21 \/ op = 22 \/ op = 23 \/ op = 24 \/ op = 25 \/ op = 26 \/ op = 27 \/ op = 28 \/ op = 29 \/ op = 30 \/ op = 31 \/ op = 32 \/ op = 33 \/ op = 34 \/ op = 35 \/ op = 36 \/ op = 37 \/ op = 38 \/ op = 39 \/ op = 40 \/ op = 41 \/ op = 42 \/ op = 43 by omega) with rfl | rfl | rfl | rfl | rfl | rfl | rfl | rfl | rfl | rfl | rfl | rfl | rfl | rfl | rfl | rfl | rfl | rfl | rfl | rfl | rfl | rfl | rfl | rfl | rfl | rfl | rfl | rfl | rfl | rfl | rfl | rfl | rfl | rfl | rfl | rfl | rfl | rfl | rfl | rfl | rfl | rfl | rfl | rfl
 · go_enter Tryz.func121, Tryz.ntmps121
   go_wp2_with fail; exact bodyPost_ret (v := .agg #[.bool false, .int .i64 0, .int .i64 0, .int .i64 0]) (by simp [results, Tryz.results121, go_sem]) rfl ⟨rfl, (Below.refl _ _).alloc (Nat.le_refl _) _⟩
 · go_enter Tryz.func121, Tryz.ntmps121
   go_wp2_with fail; exact bodyPost_ret (v := .agg #[.bool true, .int .i64 (-2147483648), .int .i64 2147483647, .int .i64 0]) (by simp [results, Tryz.results121, go_sem]) rfl ⟨rfl, (Below.refl _ _).alloc (Nat.le_refl _) _⟩
 · go_enter Tryz.func121, Tryz.ntmps121
   go_wp2_with fail; exact bodyPost_ret (v := .agg #[.bool false, .int .i64 0, .int .i64 0, .int .i64 0]) (by simp [results, Tryz.results121, go_sem]) rfl ⟨rfl, (Below.refl _ _).alloc (Nat.le_refl _) _⟩
 · go_enter Tryz.func121, Tryz.ntmps121
   go_wp2_with fail; exact bodyPost_ret (v := .agg #[.bool true, .int .i64 0, .int .i64 7, .int .i64 0]) (by simp [results, Tryz.results121, go_sem]) rfl ⟨rfl, (Below.refl _ _).alloc (Nat.le_refl _) _⟩
 · go_enter Tryz.func121, Tryz.ntmps121
   go_wp2_with fail; exact bodyPost_ret (v := .agg #[.bool true, .int .i64 0, .int .i64 7, .int .i64 0]) (by simp [results, Tryz.results121, go_sem]) rfl ⟨rfl, (Below.refl _ _).alloc (Nat.le_refl _) _⟩
 · go_enter Tryz.func121, Tryz.ntmps121
   go_wp2_with fail; exact bodyPost_ret (v := .agg #[.bool false, .int .i64 0, .int .i64 0, .int .i64 0]) (by simp [results, Tryz.results121, go_sem]) rfl ⟨rfl, (Below.refl _ _).alloc (Nat.le_refl _) _⟩
 · go_enter Tryz.func121, Tryz.ntmps121
   go_wp2_with fail; exact bodyPost_ret (v := .agg #[.bool false, .int .i64 0, .int .i64 0, .int .i64 0]) (by simp [results, Tryz.results121, go_sem]) rfl ⟨rfl, (Below.refl _ _).alloc (Nat.le_refl _) _⟩
 · go_enter Tryz.func121, Tryz.ntmps121
   go_wp2_with fail; exact bodyPost_ret (v := .agg #[.bool false, .int .i64 0, .int .i64 0, .int .i64 0]) (by simp [results, Tryz.results121, go_sem]) rfl ⟨rfl, (Below.refl _ _).alloc (Nat.le_refl _) _⟩
 · go_enter Tryz.func121, Tryz.ntmps121
   go_wp2_with fail; exact bodyPost_ret (v := .agg #[.bool false, .int .i64 0, .int .i64 0, .int .i64 0]) (by simp [results, Tryz.results121, go_sem]) rfl ⟨rfl, (Below.refl _ _).alloc (Nat.le_refl _) _⟩
 · go_enter Tryz.func121, Tryz.ntmps121
   go_wp2_with fail; exact bodyPost_ret (v := .agg #[.bool false, .int .i64 0, .int .i64 0, .int .i64 0]) (by simp [results, Tryz.results121, go_sem]) rfl ⟨rfl, (Below.refl _ _).alloc (Nat.le_refl _) _⟩
 · go_enter Tryz.func121, Tryz.ntmps121
   go_wp2_with fail; exact bodyPost_ret (v := .agg #[.bool false, .int .i64 0, .int .i64 0, .int .i64 0]) (by simp [results, Tryz.results121, go_sem]) rfl ⟨rfl, (Below.refl _ _).alloc (Nat.le_refl _) _⟩
 · go_enter Tryz.func121, Tryz.ntmps121
   go_wp2_with fail; exact bodyPost_ret (v := .agg #[.bool false, .int .i64 0, .int .i64 0, .int .i64 0]) (by simp [results, Tryz.results121, go_sem]) rfl ⟨rfl, (Below.refl _ _).alloc (Nat.le_refl _) _⟩
 · go_enter Tryz.func121, Tryz.ntmps121
   go_wp2_with fail; exact bodyPost_ret (v := .agg #[.bool false, .int .i64 0, .int .i64 0, .int .i64 0]) (by simp [results, Tryz.results121, go_sem]) rfl ⟨rfl, (Below.refl _ _).alloc (Nat.le_refl _) _⟩
 · go_enter Tryz.func121, Tryz.ntmps121
   go_wp2_with fail; exact bodyPost_ret (v := .agg #[.bool false, .int .i64 0, .int .i64 0, .int .i64 0]) (by simp [results, Tryz.results121, go_sem]) rfl ⟨rfl, (Below.refl _ _).alloc (Nat.le_refl _) _⟩
 · go_enter Tryz.func121, Tryz.ntmps121
   go_wp2_with fail; exact bodyPost_ret (v := .agg #[.bool true, .int .i64 0, .int .i64 47, .int .i64 0]) (by simp [results, Tryz.results121, go_sem]) rfl ⟨rfl, (Below.refl _ _).alloc (Nat.le_refl _) _⟩
 · go_enter Tryz.func121, Tryz.ntmps121
   go_wp2_with fail; exact bodyPost_ret (v := .agg #[.bool true, .int .i64 0, .int .i64 47, .int .i64 0]) (by simp [results, Tryz.results121, go_sem]) rfl ⟨rfl, (Below.refl _ _).alloc (Nat.le_refl _) _⟩
 · go_enter Tryz.func121, Tryz.ntmps121
   go_wp2_with fail; exact bodyPost_ret (v := .agg #[.bool true, .int .i64 0, .int .i64 47, .int .i64 0]) (by simp [results, Tryz.results121, go_sem]) rfl ⟨rfl, (Below.refl _ _).alloc (Nat.le_refl _) _⟩
 · go_enter Tryz.func121, Tryz.ntmps121
   go_wp2_with fail; exact bodyPost_ret (v := .agg #[.bool true, .int .i64 0, .int .i64 47, .int .i64 0]) (by simp [results, Tryz.results121, go_sem]) rfl ⟨rfl, (Below.refl _ _).alloc (Nat.le_refl _) _⟩
 · go_enter Tryz.func121, Tryz.ntmps121
   go_wp2_with fail; exact bodyPost_ret (v := .agg #[.bool true, .int .i64 0, .int .i64 47, .int .i64 0]) (by simp [results, Tryz.results121, go_sem]) rfl ⟨rfl, (Below.refl _ _).alloc (Nat.le_refl _) _⟩
 · go_enter Tryz.func121, Tryz.ntmps121
   go_wp2_with fail; exact bodyPost_ret (v := .agg #[.bool true, .int .i64 0, .int .i64 47, .int .i64 0]) (by simp [results, Tryz.results121, go_sem]) rfl ⟨rfl, (Below.refl _ _).alloc (Nat.le_refl _) _⟩
 · go_enter Tryz.func121, Tryz.ntmps121
   go_wp2_with fail; exact bodyPost_ret (v := .agg #[.bool true, .int .i64 0, .int .i64 47, .int .i64 0]) (by simp [results, Tryz.results121, go_sem]) rfl ⟨rfl, (Below.refl _ _).alloc (Nat.le_refl _) _⟩
 · go_enter Tryz.func121, Tryz.ntmps121
   go_wp2_with fail; exact bodyPost_ret (v := .agg #[.bool true, .int .i64 0, .int .i64 47, .int .i64 0]) (by simp [results, Tryz.results121, go_sem]) rfl ⟨rfl, (Below.refl _ _).alloc (Nat.le_refl _) _⟩
 · go_enter Tryz.func121, Tryz.ntmps121
   go_wp2_with fail; exact bodyPost_ret (v := .agg #[.bool true, .int .i64 0, .int .i64 47, .int .i64 0]) (by simp [results, Tryz.results121, go_sem]) rfl ⟨rfl, (Below.refl _ _).alloc (Nat.le_refl _) _⟩
 · go_enter Tryz.func121, Tryz.ntmps121
   go_wp2_with fail; exact bodyPost_ret (v := .agg #[.bool true, .int .i64 0, .int .i64 47, .int .i64 0]) (by simp [results, Tryz.results121, go_sem]) rfl ⟨rfl, (Below.refl _ _).alloc (Nat.le_refl _) _⟩
 · go_enter Tryz.func121, Tryz.ntmps121
   go_wp2_with fail; exact bodyPost_ret (v := .agg #[.bool true, .int .i64 0, .int .i64 47, .int .i64 0]) (by simp [results, Tryz.results121, go_sem]) rfl ⟨rfl, (Below.refl _ _).alloc (Nat.le_refl _) _⟩
 · go_enter Tryz.func121, Tryz.ntmps121
   go_wp2_with fail; exact bodyPost_ret (v := .agg #[.bool true, .int .i64 0, .int .i64 47, .int .i64 0]) (by simp [results, Tryz.results121, go_sem]) rfl ⟨rfl, (Below.refl _ _).alloc (Nat.le_refl _) _⟩
 · go_enter Tryz.func121, Tryz.ntmps121
   go_wp2_with fail; exact bodyPost_ret (v := .agg #[.bool true, .int .i64 0, .int .i64 47, .int .i64 0]) (by simp [results, Tryz.results121, go_sem]) rfl ⟨rfl, (Below.refl _ _).alloc (Nat.le_refl _) _⟩
 · go_enter Tryz.func121, Tryz.ntmps121
   go_wp2_with fail; exact bodyPost_ret (v := .agg #[.bool false, .int .i64 0, .int .i64 0, .int .i64 1]) (by simp [results, Tryz.results121, go_sem]) rfl ⟨rfl, (Below.refl _ _).alloc (Nat.le_refl _) _⟩
 · go_enter Tryz.func121, Tryz.ntmps121
   go_wp2_with fail; exact bodyPost_ret (v := .agg #[.bool false, .int .i64 0, .int .i64 0, .int .i64 2]) (by simp [results, Tryz.results121, go_sem]) rfl ⟨rfl, (Below.refl _ _).alloc (Nat.le_refl _) _⟩
 · go_enter Tryz.func121, Tryz.ntmps121
   go_wp2_with fail; exact bodyPost_ret (v := .agg #[.bool false, .int .i64 0, .int .i64 0, .int .i64 2]) (by simp [results, Tryz.results121, go_sem]) rfl ⟨rfl, (Below.refl _ _).alloc (Nat.le_refl _) _⟩
 · go_enter Tryz.func121, Tryz.ntmps121
   go_wp2_with fail; exact bodyPost_ret (v := .agg #[.bool false, .int .i64 0, .int .i64 0, .int .i64 2]) (by simp [results, Tryz.results121, go_sem]) rfl ⟨rfl, (Below.refl _ _).alloc (Nat.le_refl _) _⟩
 · go_enter Tryz.func121, Tryz.ntmps121
   go_wp2_with fail; exact bodyPost_ret (v := .agg #[.bool false, .int .i64 0, .int .i64 0, .int .i64 2]) (by simp [results, Tryz.results121, go_sem]) rfl ⟨rfl, (Below.refl _ _).alloc (Nat.le_refl _) _⟩
 · go_enter Tryz.func121, Tryz.ntmps121
   go_wp2_with fail; exact bodyPost_ret (v := .agg #[.bool false, .int .i64 0, .int .i64 0, .int .i64 0]) (by simp [results, Tryz.results121, go_sem]) rfl ⟨rfl, (Below.refl _ _).alloc (Nat.le_refl _) _⟩
 · go_enter Tryz.func121, Tryz.ntmps121
   go_wp2_with fail; exact bodyPost_ret (v := .agg #[.bool false, .int .i64 0, .int .i64 0, .int .i64 1]) (by simp [results, Tryz.results121, go_sem]) rfl ⟨rfl, (Below.refl _ _).alloc (Nat.le_refl _) _⟩
 · go_enter Tryz.func121, Tryz.ntmps121
   go_wp2_with fail; exact bodyPost_ret (v := .agg #[.bool false, .int .i64 0, .int .i64 0, .int .i64 0]) (by simp [results, Tryz.results121, go_sem]) rfl ⟨rfl, (Below.refl _ _).alloc (Nat.le_refl _) _⟩
 · go_enter Tryz.func121, Tryz.ntmps121
   go_wp2_with fail; exact bodyPost_ret (v := .agg #[.bool false, .int .i64 0, .int .i64 0, .int .i64 0]) (by simp [results, Tryz.results121, go_sem]) rfl ⟨rfl, (Below.refl _ _).alloc (Nat.le_refl _) _⟩
 · go_enter Tryz.func121, Tryz.ntmps121
   go_wp2_with fail; exact bodyPost_ret (v := .agg #[.bool false, .int .i64 0, .int .i64 0, .int .i64 0]) (by simp [results, Tryz.results121, go_sem]) rfl ⟨rfl, (Below.refl _ _).alloc (Nat.le_refl _) _⟩
 · go_enter Tryz.func121, Tryz.ntmps121
   go_wp2_with fail; exact bodyPost_ret (v := .agg #[.bool false, .int .i64 0, .int .i64 0, .int .i64 1]) (by simp [results, Tryz.results121, go_sem]) rfl ⟨rfl, (Below.refl _ _).alloc (Nat.le_refl _) _⟩
 · go_enter Tryz.func121, Tryz.ntmps121
   go_wp2_with fail; exact bodyPost_ret (v := .agg #[.bool false, .int .i64 0, .int .i64 0, .int .i64 1]) (by simp [results, Tryz.results121, go_sem]) rfl ⟨rfl, (Below.refl _ _).alloc (Nat.le_refl _) _⟩
 · go_enter Tryz.func121, Tryz.ntmps121
   go_wp2_with fail; exact bodyPost_ret (v := .agg #[.bool false, .int .i64 0, .int .i64 0, .int .i64 2]) (by simp [results, Tryz.results121, go_sem]) rfl ⟨rfl, (Below.refl _ _).alloc (Nat.le_refl _) _⟩
 · go_enter Tryz.func121, Tryz.ntmps121
   go_wp2_with fail; exact bodyPost_ret (v := .agg #[.bool false, .int .i64 0, .int .i64 0, .int .i64 2]) (by simp [results, Tryz.results121, go_sem]) rfl ⟨rfl, (Below.refl _ _).alloc (Nat.le_refl _) _⟩
 · go_enter Tryz.func121, Tryz.ntmps121
   go_wp2_with fail; exact bodyPost_ret (v := .agg #[.bool false, .int .i64 0, .int .i64 0, .int .i64 0]) (by simp [results, Tryz.results121, go_sem]) rfl ⟨rfl, (Below.refl _ _).alloc (Nat.le_refl _) _⟩
 · go_enter Tryz.func121, Tryz.ntmps121
   go_wp2_with fail; exact bodyPost_ret (v := .agg #[.bool false, .int .i64 0, .int .i64 0, .int .i64 0]) (by simp [results, Tryz.results121, go_sem]) rfl ⟨rfl, (Below.refl _ _).alloc (Nat.le_refl _) _⟩
 · go_enter Tryz.func121, Tryz.ntmps121
   go_wp2_with fail; exact bodyPost_ret (v := .agg #[.bool false, .int .i64 0, .int .i64 0, .int .i64 0]) (by simp [results, Tryz.results121, go_sem]) rfl ⟨rfl, (Below.refl _ _).alloc (Nat.le_refl _) _⟩
theorem argsOf_out (op : Int) (h : op < 0 \/ 44 <= op) (w : World) :
 Calls Tryz.prog 121 #[.int .i64 op] w fun e w' => e = .returned (.agg #[.bool (Pp.argsX op).1, .int .i64 (Pp.argsX op).2.1, .int .i64 (Pp.argsX op).2.2.1, .int .i64 (Pp.argsX op).2.2.2]) /\ Below w.heap.size w w' := by
 have hX : Pp.argsX op = (false, 0, 0, 0) := by
  unfold Pp.argsX; rw [if_neg (by omega), if_neg (by omega), if_neg (by omega), if_neg (by omega), if_neg (by omega)]
 rw [hX]; clear hX; go_enter Tryz.func121, Tryz.ntmps121; go_wp2_with fail; exact bodyPost_ret (v := .agg #[.bool false, .int .i64 0, .int .i64 0, .int .i64 0]) (by simp [results, Tryz.results121, go_sem]) rfl ⟨rfl, (Below.refl _ _).alloc (Nat.le_refl _) _⟩
end Go.Proofs.YtjlappamkfjlkabGreatDoor
