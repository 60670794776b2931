/- What the laws of this seat lean on: 2 texts. -/
import Derived.Test.YtbbbnciejmdpfabGreatDoorPkAn
import Derived.Test.YtbbbnciejmdpfabGreatDoorPkAk
set_option maxRecDepth 100000
set_option maxHeartbeats 64000000
set_option linter.unusedVariables false
set_option linter.unusedSimpArgs false
namespace Go.Proofs.YtbbbnciejmdpfabGreatDoor
open Go.RowKit
namespace Hr
def Yes (P : Prop) (e : Ending) : Prop := ∃ b : Bool, e = .returned (.bool b) /\ (b = true ↔ P)
theorem Yes.yes {P : Prop} (h : P) : Yes P (.returned (.bool true)) := ⟨true, rfl, ⟨fun _ => h, fun _ => rfl⟩⟩
theorem Yes.no {P : Prop} (h : ¬ P) : Yes P (.returned (.bool false)) := ⟨false, rfl, ⟨fun hh => absurd hh (by decide), fun e => absurd e h⟩⟩
theorem Yes.t {P : Prop} {e : Ending} (h : Yes P e) (hp : P) : e = .returned (.bool true) := by
 obtain ⟨b, rfl, hb⟩ := h; rw [hb.2 hp]
theorem Yes.f {P : Prop} {e : Ending} (h : Yes P e) (hp : ¬ P) : e = .returned (.bool false) := by
 obtain ⟨b, rfl, hb⟩ := h; cases b with
 | true => exact absurd (hb.1 rfl) hp
 | false => rfl
structure UpsX (w : World) (n : Nat) (vu : Value) (up : List (List Nat)) : Prop where
 row : RowX w 1 (UpX w) vu up
 len : up.length = n
 low : ∀ u ∈ up, ∀ k ∈ u, k < n
 few : ∀ u ∈ up, u.length <= 2000
 top : n <= 1000
theorem UpsX.on {w w' : World} {n : Nat} {vu : Value} {up : List (List Nat)} (h : UpsX w n vu up) (hb : Below w.heap.size w w') : UpsX w' n vu up :=
 ⟨h.row.on hb fun _ _ h => h.on hb, h.len, h.low, h.few, h.top⟩
end Hr
theorem ring_any (n : Nat) (pa : Option Addr) (pc : Nat) (up : List (List Nat)) (vu : Value) (w : World) (h : Hr.UpsX w n vu up) :
 Calls Tryz.prog 64 #[.agg #[.slice pa n pc, vu]] w fun e w' => Hr.Yes (Hr.Ring up) e /\ Below w.heap.size w w' := by
 have HBy := hide (fun wx (hb : Below w.heap.size w wx) (a : Nat) (ha : a < n) => beyond_any n pa pc up vu a wx (h.on hb).row h.len ha h.low h.few h.top); have HU := hide h; have h1000 := h.top; obtain ⟨ua, uc, rfl, _⟩ := h.row.len; rw [h.len] at HBy ⊢; clear h; have hx0 := hide (heap_alloc_new w (.cells #[.slice pa n pc, .slice ua n uc] 60)); have HB0 := hide ((Below.refl w.heap.size w).alloc (Nat.le_refl _) (.cells #[.slice pa n pc, .slice ua n uc] 60)); go_enter Tryz.func64, Tryz.ntmps64; go_wp2_with fail; have HC : Hid (∀ wx, Below (w.alloc (.cells #[.slice pa n pc, .slice ua n uc] 60)).heap.size (w.alloc (.cells #[.slice pa n pc, .slice ua n uc] 60)) wx -> wx.cell? ⟨w.heap.size, 0, none⟩ = some (.slice pa n pc) /\ wx.cell? ⟨w.heap.size, 1, none⟩ = some (.slice ua n uc)) := hide fun wx hb => ⟨cell_box ((hb.block w.heap.size (Ow.lt_of_blk hx0.out)).trans hx0.out) 0, cell_box ((hb.block w.heap.size (Ow.lt_of_blk hx0.out)).trans hx0.out) 1⟩; generalize w.alloc (.cells #[.slice pa n pc, .slice ua n uc] 60) = w0 at *
 clear hx0
 go_loopw [7] (fun i wr => ∃ k : Nat, k <= n /\ i = .int .i64 k /\ Hid (Below w0.heap.size w0 wr) /\ Hid (∀ j, j < k -> ¬ Hr.Far up j j)) (fun i _ => n - (intOf i).toNat)
 case atStart => exact ⟨0, Nat.zero_le _, rfl, hide (Below.refl _ _), hide fun j hj => absurd hj (Nat.not_lt_zero _)⟩
 case round =>
  obtain ⟨k, hk, rfl, HBr, HF⟩ := hrel; have HBw := hide (HB0.out.trans (HBr.out.mono HB0.out.size)); have hn1 : (n : Int) <= 1000 := by omega
  by_cases hlt : k < n
  · have c0 := (HC.out wr HBr.out).1
    have c1 := (HC.out wr HBr.out).2; have hlt' : (k : Int) < (n : Int) := by omega
    go_wp2_with fail; refine (HBy.out wr HBw.out k hlt).mono ?_; rintro e w5 ⟨v, rfl, ⟨b, rfl, hm⟩, hb5⟩; obtain ⟨m, hm1, hm2⟩ := hm k hlt; have HB5 := hide (HBr.out.trans (hb5.mono HBr.out.size)); have HM2 := hide hm2; clear hm hb5 c0 c1 hm2; cases m with
    | true =>
      go_wp2_with fail; go_ret; exact ⟨.yes ⟨k, HM2.out.1 (by simp)⟩, HB0.out.trans (HB5.out.mono HB0.out.size)⟩
    | false =>
      have HF' : Hid (∀ j, j < k + 1 -> ¬ Hr.Far up j j) := hide fun j hj hf => by
       rcases Nat.lt_or_eq_of_le (Nat.le_of_lt_succ hj) with h | rfl
       · exact HF.out j h hf
       · have := HM2.out.2 hf; cases this
      clear HM2 HF; go_wp2_with fail
      go_roundw
      case rel => first | exact ⟨k + 1, by omega, by go_num, HB5, HF'⟩ | ((repeat apply Exists.intro); exact ⟨⟨k + 1, by omega, by go_num, HB5, HF'⟩, rfl⟩)
      case measure => simp [intOf]; omega
  · have hnl : ¬ ((k : Int) < (n : Int)) := by omega
    go_wp2_with fail; go_ret; refine ⟨.no ?_, HBw.out⟩; rintro ⟨i, hi⟩
    have key : ∀ {i j : Nat}, Hr.Far up i j -> i < up.length := by
     intro i j h; exact Hr.Far.ind (C := fun i _ => i < up.length) (fun ⟨u, hu, _⟩ => (List.getElem?_eq_some_iff.1 hu).1) (fun _ _ ih => ih) h
    have := key hi; rw [HU.out.len] at this; exact HF.out i (by omega) hi
theorem under_any (n : Nat) (pa : Option Addr) (pc : Nat) (up : List (List Nat)) (vu : Value) (lo hi : Nat) (w : World) (h : Hr.UpsX w n vu up) (h1 : lo < n) (h2 : hi < n) :
 Calls Tryz.prog 23 #[.agg #[.slice pa n pc, vu], .int .i64 lo, .int .i64 hi] w fun e w' => Hr.Yes (lo = hi \/ hi = 0 \/ Hr.Far up lo hi) e /\ Below w.heap.size w w' := by
 have HBy := hide (fun wx (hb : Below w.heap.size w wx) (a : Nat) (ha : a < n) => beyond_any n pa pc up vu a wx (h.on hb).row h.len ha h.low h.few h.top); have h1000 := h.top; obtain ⟨ua, uc, rfl, _⟩ := h.row.len; rw [h.len] at HBy ⊢; clear h; have HB0 := hide ((Below.refl w.heap.size w).alloc (Nat.le_refl _) (.cells #[.slice pa n pc, .slice ua n uc] 60)); have hn1 : (n : Int) <= 1000 := by omega
 by_cases hq : lo = hi
 · subst hq
   go_enter Tryz.func23, Tryz.ntmps23; go_wp2_with fail; go_ret; exact ⟨.yes (by simp), HB0.out⟩
 · have hq' : (lo : Int) ≠ (hi : Int) := by omega
   by_cases hz : hi = 0
   · subst hz
     go_enter Tryz.func23, Tryz.ntmps23; go_wp2_with fail; go_ret; exact ⟨.yes (by simp), HB0.out⟩
   · have hz' : (hi : Int) ≠ 0 := by omega
     have h1' : (lo : Int) < (n : Int) := by omega
     have h2' : (hi : Int) < (n : Int) := by omega
     have HQ := hide hq; have HZ := hide hz; clear hq hz; go_enter Tryz.func23, Tryz.ntmps23; go_wp2_with fail; refine (HBy.out _ HB0.out lo h1).mono ?_; rintro e w5 ⟨v, rfl, ⟨b, rfl, hm⟩, hb5⟩; obtain ⟨m, hm1, hm2⟩ := hm hi h2; have HB5 := hide (HB0.out.trans (hb5.mono HB0.out.size)); have HM2 := hide hm2; clear hm hb5 hm2; go_wp2_with fail; go_ret; refine ⟨⟨_, rfl, ?_⟩, HB5.out⟩; simp only [Bool.or_eq_true, beq_iff_eq]; rw [HM2.out]
     exact ⟨fun h => by
      rcases h with (h | h) | h
      · exact absurd h hq'
      · exact absurd h hz'
      · exact .inr (.inr h), fun h => by
      rcases h with h | h | h
      · exact absurd h HQ.out
      · exact absurd h HZ.out
      · exact .inr h⟩
namespace Ly
theorem nodup_step {α : Type} {f : α -> Pp.Bs} {l : List α} {k : Nat} {x : α} (h : ((l.take k).map f).Nodup) (hx : l[k]? = some x) (hn : (l.take k).any (fun y => f x == f y) = false) : ((l.take (k + 1)).map f).Nodup := by
 rw [List.take_add_one, hx, Option.toList_some, List.map_append, List.nodup_append]; refine ⟨h, by simp, fun a ha b hb => ?_⟩
 obtain ⟨y, hy, rfl⟩ := List.mem_map.1 ha; simp at hb; subst hb; have := List.any_eq_false.1 hn y hy; intro e; exact this (by simp [e])
theorem nodup_not {α : Type} {f : α -> Pp.Bs} {l : List α} {k : Nat} {x : α} (hx : l[k]? = some x) (hn : (l.take k).any (fun y => f x == f y) = true) : ¬ (l.map f).Nodup := by
 intro h; obtain ⟨y, hy, e⟩ := List.any_eq_true.1 hn; have e : f x = f y := by simpa using e
 have h2 : ((l.take (k + 1)).map f).Nodup := List.Nodup.sublist ((List.take_sublist (k + 1) l).map f) h; rw [List.take_add_one, hx, Option.toList_some, List.map_append, List.nodup_append] at h2; exact h2.2.2 (f y) (List.mem_map.2 ⟨y, hy, rfl⟩) (f x) (by simp) e.symm
end Ly
theorem RowX.take {α : Type} {w : World} {sz : Nat} {P : α -> List Value -> Prop} {a : Option Addr} {n c : Nat} {l : List α} (h : RowX w sz P (.slice a n c) l) {k : Nat} (hk : k <= l.length) : RowX w sz P (.slice a k c) (l.take k) := by
 obtain ⟨a', c', e, hc, h⟩ := h; injection e with e1 e2 e3; subst e1 e3; refine ⟨a, c, by rw [List.length_take, Nat.min_eq_left hk], by rw [List.length_take]; omega, ?_⟩
 rcases h with rfl | ⟨b, o, e4, hlt, hr⟩
 · exact .inl (by simp)
 · refine .inr ⟨b, o, e4, hlt, fun j x hj => hr j x ?_⟩
   rw [List.getElem?_take] at hj
   split at hj
   · exact hj
   · cases hj
theorem tw1_any (x : Pp.Fld) (ys : List Value) (w : World) (h : FldX x ys) :
 Calls Tryz.prog 109 #[.agg ys.toArray] w fun e w' => e = .returned (.string ⟨x.name.toArray⟩) /\ Below w.heap.size w w' := by
 obtain ⟨rfl, _⟩ := h; simp only [fldL]; have HB := hide ((Below.refl w.heap.size w).alloc (Nat.le_refl _) (.cells #[.string ⟨x.name.toArray⟩, .int .i64 x.ty.kind, .string ⟨x.ty.name.toArray⟩, .bool x.stat] 43)); go_enter Tryz.func109, Tryz.ntmps109; go_wp2_with fail; go_ret; exact ⟨rfl, HB.out⟩
theorem repF1_any (x y : Pp.Fld) (xs ys : List Value) (bn bx : Nat) (w : World) (hx : FldX x xs) (hy : FldX y ys) (hbn : bn < w.heap.size) (hbx : bx < w.heap.size) (hn : w.cell? ⟨bn, 0, none⟩ = some (.func (.func 109) #[] #[]))
 (hxc : ∀ (j : Nat) (u : Value), xs[j]? = some u -> w.cell? ⟨bx, j, none⟩ = some u) :
 Calls Tryz.prog 129 #[.agg ys.toArray, .pointer (some ⟨bn, 0, none⟩), .pointer (some ⟨bx, 0, none⟩)] w fun e w' => e = .returned (.bool (x.name == y.name)) /\ Below w.heap.size w w' := by
 have HTx := hide (fun wx => tw1_any x xs wx hx); have HTy := hide (fun wx => tw1_any y ys wx hy); obtain ⟨rfl, _⟩ := hx; simp only [fldL] at HTx hxc; obtain ⟨rfl, _⟩ := hy; simp only [fldL] at HTy ⊢; have hb0 := (Below.refl w.heap.size w).alloc (Nat.le_refl _) (.cells #[.string ⟨y.name.toArray⟩, .int .i64 y.ty.kind, .string ⟨y.ty.name.toArray⟩, .bool y.stat] 43); have hy0 := heap_alloc_new w (.cells #[.string ⟨y.name.toArray⟩, .int .i64 y.ty.kind, .string ⟨y.ty.name.toArray⟩, .bool y.stat] 43); have HB := hide hb0
 have HS : Hid (∀ wz, Below (w.alloc (.cells #[.string ⟨y.name.toArray⟩, .int .i64 y.ty.kind, .string ⟨y.ty.name.toArray⟩, .bool y.stat] 43)).heap.size (w.alloc (.cells #[.string ⟨y.name.toArray⟩, .int .i64 y.ty.kind, .string ⟨y.ty.name.toArray⟩, .bool y.stat] 43)) wz -> wz.cell? ⟨bn, 0, none⟩ = some (.func (.func 109) #[] #[]) /\ wz.cell? ⟨bx, 0, none⟩ = some (.string ⟨x.name.toArray⟩) /\ wz.cell? ⟨bx, 1, none⟩ = some (.int .i64 x.ty.kind) /\ wz.cell? ⟨bx, 2, none⟩ = some (.string ⟨x.ty.name.toArray⟩) /\ wz.cell? ⟨bx, 3, none⟩ = some (.bool x.stat) /\ wz.cell? ⟨w.heap.size, 0, none⟩ = some (.string ⟨y.name.toArray⟩) /\ wz.cell? ⟨w.heap.size, 1, none⟩ = some (.int .i64 y.ty.kind) /\ wz.cell? ⟨w.heap.size, 2, none⟩ = some (.string ⟨y.ty.name.toArray⟩) /\ wz.cell? ⟨w.heap.size, 3, none⟩ = some (.bool y.stat)) := hide fun wz hb2 => by
  have hb := hb0.trans (hb2.mono hb0.size); exact ⟨(hb.cell hbn).trans hn, (hb.cell hbx).trans (hxc 0 _ rfl), (hb.cell hbx).trans (hxc 1 _ rfl), (hb.cell hbx).trans (hxc 2 _ rfl), (hb.cell hbx).trans (hxc 3 _ rfl), cell_box ((hb2.block _ (Ow.lt_of_blk hy0)).trans hy0) 0, cell_box ((hb2.block _ (Ow.lt_of_blk hy0)).trans hy0) 1, cell_box ((hb2.block _ (Ow.lt_of_blk hy0)).trans hy0) 2, cell_box ((hb2.block _ (Ow.lt_of_blk hy0)).trans hy0) 3⟩
 obtain ⟨r, hr⟩ : ∃ r, r = (x.name == y.name) := ⟨_, rfl⟩; have HR := hide hr; rw [<- hr]; clear hb0 hy0 hxc hn hr; go_enter Tryz.func129, Tryz.ntmps129; go_wp2_with fail; generalize w.alloc (.cells #[.string ⟨y.name.toArray⟩, .int .i64 y.ty.kind, .string ⟨y.ty.name.toArray⟩, .bool y.stat] 43) = wa at *
 have HBz : Hid (Below wa.heap.size wa wa.drew) := hide (Below.drew (Below.refl _ _))
 go_region_held3 (fun wz => wz.cell? ⟨bn, 0, none⟩ = some (.func (.func 109) #[] #[]) /\ wz.cell? ⟨bx, 0, none⟩ = some (.string ⟨x.name.toArray⟩) /\ wz.cell? ⟨bx, 1, none⟩ = some (.int .i64 x.ty.kind) /\ wz.cell? ⟨bx, 2, none⟩ = some (.string ⟨x.ty.name.toArray⟩) /\ wz.cell? ⟨bx, 3, none⟩ = some (.bool x.stat) /\ wz.cell? ⟨w.heap.size, 0, none⟩ = some (.string ⟨y.name.toArray⟩) /\ wz.cell? ⟨w.heap.size, 1, none⟩ = some (.int .i64 y.ty.kind) /\ wz.cell? ⟨w.heap.size, 2, none⟩ = some (.string ⟨y.ty.name.toArray⟩) /\ wz.cell? ⟨w.heap.size, 3, none⟩ = some (.bool y.stat)) (exact HS.out _ HBz.out)
  (first
    | (go_at_call 109
       refine (HTx.out _).mono ?_; rintro e wn ⟨rfl, hbn'⟩; have HBz := hide (HBz.out.trans (hbn'.mono HBz.out.size))
       clear hbn')
    | (go_at_call 109
       refine (HTy.out _).mono ?_; rintro e wn ⟨rfl, hbn'⟩; have HBz := hide (HBz.out.trans (hbn'.mono HBz.out.size))
       clear hbn')
    | fail)
 have HB2 := hide (HB.out.trans (HBz.out.mono HB.out.size)); clear HBz HS HTx HTy; go_wp2_with fail; go_ret; refine ⟨?_, HB2.out⟩; rw [HR.out]
 first | rfl | simp
theorem repF_any (l : List Pp.Fld) (v : Value) (w : World) (h : RowX w 4 FldX v l) (hn : l.length <= 100000) :
 Calls Tryz.prog 108 #[v, .func (.func 109) #[] #[]] w fun e w' => Hr.Yes (¬ (l.map (·.name)).Nodup) e /\ Below w.heap.size w w' := by
 have HR := hide h; obtain ⟨a, c, rfl, hcap⟩ := h.len; have HRk := hide (fun (k : Nat) (hk : k <= l.length) => h.take hk); clear h; obtain ⟨m, hm⟩ : ∃ q, q = l.length := ⟨_, rfl⟩; have HN := hide hm; rw [<- hm] at HR hn HRk hcap ⊢; clear hm; have hm1 : (m : Int) <= 100000 := by omega
 have HB0 := hide ((Below.refl w.heap.size w).alloc (Nat.le_refl _) (.cells #[.func (.func 109) #[] #[]] 159)); have HX0 := hide (heap_alloc_new w (.cells #[.func (.func 109) #[] #[]] 159)); have hmf : ∀ (fn : Fn) (first cap : Array Value) (w : World), (Instr.makeFunc fn first cap).run Tryz.prog w = .ok (.func fn first cap) w := fun _ _ _ _ => rfl
 go_enter Tryz.func108, Tryz.ntmps108; go_wp2_with fail; generalize w.alloc (.cells #[.func (.func 109) #[] #[]] 159) = wa at *
 go_loopw [9] (fun i wr => ∃ k : Nat, k <= m /\ i = .int .i64 k /\ Hid (Below wa.heap.size wa wr) /\ Hid (((l.take k).map (·.name)).Nodup)) (fun i _ => m - (intOf i).toNat)
 case atStart => exact ⟨0, Nat.zero_le _, rfl, hide (Below.refl _ _), hide (by simp)⟩
 case round =>
  obtain ⟨k, hk, rfl, HB, HNo⟩ := hrel; have HBw := hide (HB0.out.trans (HB.out.mono HB0.out.size)); by_cases hlt : k < m
  · obtain ⟨x, hx⟩ : ∃ x, l[k]? = some x := ⟨l[k]'(by rw [<- HN.out]; exact hlt), List.getElem?_eq_getElem _⟩
    obtain ⟨g, o, rfl, ys, wf, hc⟩ := Ow.row_at' HR.out hx; have hG := hide (hc wr HBw.out); have HY := hide (fun hp => Ly.nodup_not (f := (·.name)) hx hp); have HZ := hide (fun hp => Ly.nodup_step (f := (·.name)) HNo.out hx hp); have HWf := hide wf; clear hc hx HNo; obtain ⟨rfl, _⟩ := wf; simp only [fldL] at HWf; have r0 := hG.out 0 _ rfl; have r1 := hG.out 1 _ rfl; have r2 := hG.out 2 _ rfl; have r3 := hG.out 3 _ rfl; rw [Nat.add_zero] at r0
    try dsimp only at r0 r1 r2 r3
    clear hG; have hlt' : (k : Int) < (m : Int) := by omega
    have hA : Below wr.heap.size wr (wr.alloc (.cells #[.string ⟨x.name.toArray⟩, .int .i64 x.ty.kind, .string ⟨x.ty.name.toArray⟩, .bool x.stat] 43)) := (Below.refl _ _).alloc (Nat.le_refl _) _; have HBA := hide (HB.out.trans (hA.mono HB.out.size)); have HBwA := hide (HBw.out.trans (hA.mono HBw.out.size)); have hbx := heap_alloc_new wr (.cells #[.string ⟨x.name.toArray⟩, .int .i64 x.ty.kind, .string ⟨x.ty.name.toArray⟩, .bool x.stat] 43); have HX1 := hide ((HBA.out.block _ (Ow.lt_of_blk HX0.out)).trans HX0.out)
    have HCf := hide (cfFl_any (l.take k) (.slice (some ⟨g, o, none⟩) k c) ⟨w.heap.size, 0, none⟩ ⟨wr.heap.size, 0, none⟩ (fun y => x.name == y.name) _ ((HRk.out k hk).on HBwA.out fun _ _ h => h) (by rw [List.length_take]; omega) fun y ys _ hp wx hb =>
     repF1_any x y _ ys w.heap.size wr.heap.size wx HWf.out hp (Nat.lt_of_lt_of_le (Ow.lt_of_blk HX1.out) hb.size) (Nat.lt_of_lt_of_le (Ow.lt_of_blk hbx) hb.size) ((cell_box ((hb.block _ (Ow.lt_of_blk HX1.out)).trans HX1.out) 0).trans rfl) (fun j u hu => (cell_box ((hb.block _ (Ow.lt_of_blk hbx)).trans hbx) j).trans (by simpa using hu)))
    have hkc : k <= c := Nat.le_trans hk hcap; have hkc' : (k : Int) <= (c : Int) := by omega
    generalize (l.take k).any (fun y => x.name == y.name) = px at HY HZ HCf; clear hbx hA HX1 HWf; go_wp2_with fail; refine HCf.out.mono ?_; rintro e w1 ⟨rfl, hb1⟩; have HB1 := hide (HBA.out.trans (hb1.mono HBA.out.size)); clear HCf hb1; cases px with
    | true =>
      have HY' := hide (HY.out rfl); clear HY HZ; go_wp2_with fail; go_ret; exact ⟨.yes HY'.out, HB0.out.trans (HB1.out.mono HB0.out.size)⟩
    | false =>
      have HZ' := hide (HZ.out rfl); clear HY HZ; go_wp2_with fail
      go_roundw
      case rel => exact ⟨k + 1, by omega, by go_num, HB1, HZ'⟩
      case measure => simp [intOf]; omega
  · have HZ : Hid ((l.map (·.name)).Nodup) := hide (by
     have := HNo.out
     rwa [List.take_of_length_le (by rw [<- HN.out]; omega)] at this)
    have hnl : ¬ ((k : Int) < (m : Int)) := by omega
    clear HNo; go_wp2_with fail; go_ret; exact ⟨.no fun h => h HZ.out, HBw.out⟩
theorem tw2_any (wp : World) (x : Pp.XMth) (ys : List Value) (w : World) (h : (MthX wp) x ys) :
 Calls Tryz.prog 111 #[.agg ys.toArray] w fun e w' => e = .returned (.string ⟨x.name.toArray⟩) /\ Below w.heap.size w w' := by
 obtain ⟨vp, vc, vk, rfl, x1, x2, x3, _⟩ := h; obtain ⟨xa1, xd1, rfl, _⟩ := x1.len; obtain ⟨xa2, xd2, rfl, _⟩ := x2.len; obtain ⟨xa3, xd3, rfl, _⟩ := x3.len; clear x1 x2 x3; simp only [mthXL]; have HB := hide ((Below.refl w.heap.size w).alloc (Nat.le_refl _) (.cells #[.string ⟨x.name.toArray⟩, .bool x.stat, .bool x.abst, .slice xa1 x.params.length xd1, .int .i64 x.ret.kind, .string ⟨x.ret.name.toArray⟩, .int .i64 x.locals, .slice xa2 x.code.length xd2, .slice xa3 x.catches.length xd3] 48)); go_enter Tryz.func111, Tryz.ntmps111; go_wp2_with fail; go_ret; exact ⟨rfl, HB.out⟩
theorem repM1_any (wp : World) (x y : Pp.XMth) (xs ys : List Value) (bn bx : Nat) (w : World) (hx : (MthX wp) x xs) (hy : (MthX wp) y ys) (hbn : bn < w.heap.size) (hbx : bx < w.heap.size) (hn : w.cell? ⟨bn, 0, none⟩ = some (.func (.func 111) #[] #[]))
 (hxc : ∀ (j : Nat) (u : Value), xs[j]? = some u -> w.cell? ⟨bx, j, none⟩ = some u) :
 Calls Tryz.prog 131 #[.agg ys.toArray, .pointer (some ⟨bn, 0, none⟩), .pointer (some ⟨bx, 0, none⟩)] w fun e w' => e = .returned (.bool (x.name == y.name)) /\ Below w.heap.size w w' := by
 have HTx := hide (fun wx => tw2_any wp x xs wx hx); have HTy := hide (fun wx => tw2_any wp y ys wx hy); obtain ⟨vp, vc, vk, rfl, x1, x2, x3, _⟩ := hx; obtain ⟨xa1, xd1, rfl, _⟩ := x1.len; obtain ⟨xa2, xd2, rfl, _⟩ := x2.len; obtain ⟨xa3, xd3, rfl, _⟩ := x3.len; clear x1 x2 x3; simp only [mthXL] at HTx hxc; obtain ⟨vp, vc, vk, rfl, x1, x2, x3, _⟩ := hy; obtain ⟨ya1, yd1, rfl, _⟩ := x1.len; obtain ⟨ya2, yd2, rfl, _⟩ := x2.len; obtain ⟨ya3, yd3, rfl, _⟩ := x3.len; clear x1 x2 x3; simp only [mthXL] at HTy ⊢; have hb0 := (Below.refl w.heap.size w).alloc (Nat.le_refl _) (.cells #[.string ⟨y.name.toArray⟩, .bool y.stat, .bool y.abst, .slice ya1 y.params.length yd1, .int .i64 y.ret.kind, .string ⟨y.ret.name.toArray⟩, .int .i64 y.locals, .slice ya2 y.code.length yd2, .slice ya3 y.catches.length yd3] 48); have hy0 := heap_alloc_new w (.cells #[.string ⟨y.name.toArray⟩, .bool y.stat, .bool y.abst, .slice ya1 y.params.length yd1, .int .i64 y.ret.kind, .string ⟨y.ret.name.toArray⟩, .int .i64 y.locals, .slice ya2 y.code.length yd2, .slice ya3 y.catches.length yd3] 48); have HB := hide hb0
 have HS : Hid (∀ wz, Below (w.alloc (.cells #[.string ⟨y.name.toArray⟩, .bool y.stat, .bool y.abst, .slice ya1 y.params.length yd1, .int .i64 y.ret.kind, .string ⟨y.ret.name.toArray⟩, .int .i64 y.locals, .slice ya2 y.code.length yd2, .slice ya3 y.catches.length yd3] 48)).heap.size (w.alloc (.cells #[.string ⟨y.name.toArray⟩, .bool y.stat, .bool y.abst, .slice ya1 y.params.length yd1, .int .i64 y.ret.kind, .string ⟨y.ret.name.toArray⟩, .int .i64 y.locals, .slice ya2 y.code.length yd2, .slice ya3 y.catches.length yd3] 48)) wz -> wz.cell? ⟨bn, 0, none⟩ = some (.func (.func 111) #[] #[]) /\ wz.cell? ⟨bx, 0, none⟩ = some (.string ⟨x.name.toArray⟩) /\ wz.cell? ⟨bx, 1, none⟩ = some (.bool x.stat) /\ wz.cell? ⟨bx, 2, none⟩ = some (.bool x.abst) /\ wz.cell? ⟨bx, 3, none⟩ = some (.slice xa1 x.params.length xd1) /\ wz.cell? ⟨bx, 4, none⟩ = some (.int .i64 x.ret.kind) /\ wz.cell? ⟨bx, 5, none⟩ = some (.string ⟨x.ret.name.toArray⟩) /\ wz.cell? ⟨bx, 6, none⟩ = some (.int .i64 x.locals) /\ wz.cell? ⟨bx, 7, none⟩ = some (.slice xa2 x.code.length xd2) /\ wz.cell? ⟨bx, 8, none⟩ = some (.slice xa3 x.catches.length xd3) /\ wz.cell? ⟨w.heap.size, 0, none⟩ = some (.string ⟨y.name.toArray⟩) /\ wz.cell? ⟨w.heap.size, 1, none⟩ = some (.bool y.stat) /\ wz.cell? ⟨w.heap.size, 2, none⟩ = some (.bool y.abst) /\ wz.cell? ⟨w.heap.size, 3, none⟩ = some (.slice ya1 y.params.length yd1) /\ wz.cell? ⟨w.heap.size, 4, none⟩ = some (.int .i64 y.ret.kind) /\ wz.cell? ⟨w.heap.size, 5, none⟩ = some (.string ⟨y.ret.name.toArray⟩) /\ wz.cell? ⟨w.heap.size, 6, none⟩ = some (.int .i64 y.locals) /\ wz.cell? ⟨w.heap.size, 7, none⟩ = some (.slice ya2 y.code.length yd2) /\ wz.cell? ⟨w.heap.size, 8, none⟩ = some (.slice ya3 y.catches.length yd3)) := hide fun wz hb2 => by
  have hb := hb0.trans (hb2.mono hb0.size); exact ⟨(hb.cell hbn).trans hn, (hb.cell hbx).trans (hxc 0 _ rfl), (hb.cell hbx).trans (hxc 1 _ rfl), (hb.cell hbx).trans (hxc 2 _ rfl), (hb.cell hbx).trans (hxc 3 _ rfl), (hb.cell hbx).trans (hxc 4 _ rfl), (hb.cell hbx).trans (hxc 5 _ rfl), (hb.cell hbx).trans (hxc 6 _ rfl), (hb.cell hbx).trans (hxc 7 _ rfl), (hb.cell hbx).trans (hxc 8 _ rfl), cell_box ((hb2.block _ (Ow.lt_of_blk hy0)).trans hy0) 0, cell_box ((hb2.block _ (Ow.lt_of_blk hy0)).trans hy0) 1, cell_box ((hb2.block _ (Ow.lt_of_blk hy0)).trans hy0) 2, cell_box ((hb2.block _ (Ow.lt_of_blk hy0)).trans hy0) 3, cell_box ((hb2.block _ (Ow.lt_of_blk hy0)).trans hy0) 4, cell_box ((hb2.block _ (Ow.lt_of_blk hy0)).trans hy0) 5, cell_box ((hb2.block _ (Ow.lt_of_blk hy0)).trans hy0) 6, cell_box ((hb2.block _ (Ow.lt_of_blk hy0)).trans hy0) 7, cell_box ((hb2.block _ (Ow.lt_of_blk hy0)).trans hy0) 8⟩
 obtain ⟨r, hr⟩ : ∃ r, r = (x.name == y.name) := ⟨_, rfl⟩; have HR := hide hr; rw [<- hr]; clear hb0 hy0 hxc hn hr; go_enter Tryz.func131, Tryz.ntmps131; go_wp2_with fail; generalize w.alloc (.cells #[.string ⟨y.name.toArray⟩, .bool y.stat, .bool y.abst, .slice ya1 y.params.length yd1, .int .i64 y.ret.kind, .string ⟨y.ret.name.toArray⟩, .int .i64 y.locals, .slice ya2 y.code.length yd2, .slice ya3 y.catches.length yd3] 48) = wa at *
 have HBz : Hid (Below wa.heap.size wa wa.drew) := hide (Below.drew (Below.refl _ _))
 go_region_held3 (fun wz => wz.cell? ⟨bn, 0, none⟩ = some (.func (.func 111) #[] #[]) /\ wz.cell? ⟨bx, 0, none⟩ = some (.string ⟨x.name.toArray⟩) /\ wz.cell? ⟨bx, 1, none⟩ = some (.bool x.stat) /\ wz.cell? ⟨bx, 2, none⟩ = some (.bool x.abst) /\ wz.cell? ⟨bx, 3, none⟩ = some (.slice xa1 x.params.length xd1) /\ wz.cell? ⟨bx, 4, none⟩ = some (.int .i64 x.ret.kind) /\ wz.cell? ⟨bx, 5, none⟩ = some (.string ⟨x.ret.name.toArray⟩) /\ wz.cell? ⟨bx, 6, none⟩ = some (.int .i64 x.locals) /\ wz.cell? ⟨bx, 7, none⟩ = some (.slice xa2 x.code.length xd2) /\ wz.cell? ⟨bx, 8, none⟩ = some (.slice xa3 x.catches.length xd3) /\ wz.cell? ⟨w.heap.size, 0, none⟩ = some (.string ⟨y.name.toArray⟩) /\ wz.cell? ⟨w.heap.size, 1, none⟩ = some (.bool y.stat) /\ wz.cell? ⟨w.heap.size, 2, none⟩ = some (.bool y.abst) /\ wz.cell? ⟨w.heap.size, 3, none⟩ = some (.slice ya1 y.params.length yd1) /\ wz.cell? ⟨w.heap.size, 4, none⟩ = some (.int .i64 y.ret.kind) /\ wz.cell? ⟨w.heap.size, 5, none⟩ = some (.string ⟨y.ret.name.toArray⟩) /\ wz.cell? ⟨w.heap.size, 6, none⟩ = some (.int .i64 y.locals) /\ wz.cell? ⟨w.heap.size, 7, none⟩ = some (.slice ya2 y.code.length yd2) /\ wz.cell? ⟨w.heap.size, 8, none⟩ = some (.slice ya3 y.catches.length yd3)) (exact HS.out _ HBz.out)
  (first
    | (go_at_call 111
       refine (HTx.out _).mono ?_; rintro e wn ⟨rfl, hbn'⟩; have HBz := hide (HBz.out.trans (hbn'.mono HBz.out.size))
       clear hbn')
    | (go_at_call 111
       refine (HTy.out _).mono ?_; rintro e wn ⟨rfl, hbn'⟩; have HBz := hide (HBz.out.trans (hbn'.mono HBz.out.size))
       clear hbn')
    | fail)
 have HB2 := hide (HB.out.trans (HBz.out.mono HB.out.size)); clear HBz HS HTx HTy; go_wp2_with fail; go_ret; refine ⟨?_, HB2.out⟩; rw [HR.out]
 first | rfl | simp
theorem repM_any (wp : World) (l : List Pp.XMth) (v : Value) (w : World) (h : RowX w 9 (MthX wp) v l) (hn : l.length <= 100000) :
 Calls Tryz.prog 110 #[v, .func (.func 111) #[] #[]] w fun e w' => Hr.Yes (¬ (l.map (·.name)).Nodup) e /\ Below w.heap.size w w' := by
 have HR := hide h; obtain ⟨a, c, rfl, hcap⟩ := h.len; have HRk := hide (fun (k : Nat) (hk : k <= l.length) => h.take hk); clear h; obtain ⟨m, hm⟩ : ∃ q, q = l.length := ⟨_, rfl⟩; have HN := hide hm; rw [<- hm] at HR hn HRk hcap ⊢; clear hm; have hm1 : (m : Int) <= 100000 := by omega
 have HB0 := hide ((Below.refl w.heap.size w).alloc (Nat.le_refl _) (.cells #[.func (.func 111) #[] #[]] 161)); have HX0 := hide (heap_alloc_new w (.cells #[.func (.func 111) #[] #[]] 161)); have hmf : ∀ (fn : Fn) (first cap : Array Value) (w : World), (Instr.makeFunc fn first cap).run Tryz.prog w = .ok (.func fn first cap) w := fun _ _ _ _ => rfl
 go_enter Tryz.func110, Tryz.ntmps110; go_wp2_with fail; generalize w.alloc (.cells #[.func (.func 111) #[] #[]] 161) = wa at *
 go_loopw [9] (fun i wr => ∃ k : Nat, k <= m /\ i = .int .i64 k /\ Hid (Below wa.heap.size wa wr) /\ Hid (((l.take k).map (·.name)).Nodup)) (fun i _ => m - (intOf i).toNat)
 case atStart => exact ⟨0, Nat.zero_le _, rfl, hide (Below.refl _ _), hide (by simp)⟩
 case round =>
  obtain ⟨k, hk, rfl, HB, HNo⟩ := hrel; have HBw := hide (HB0.out.trans (HB.out.mono HB0.out.size)); by_cases hlt : k < m
  · obtain ⟨x, hx⟩ : ∃ x, l[k]? = some x := ⟨l[k]'(by rw [<- HN.out]; exact hlt), List.getElem?_eq_getElem _⟩
    obtain ⟨g, o, rfl, ys, wf, hc⟩ := Ow.row_at' HR.out hx; have hG := hide (hc wr HBw.out); have HY := hide (fun hp => Ly.nodup_not (f := (·.name)) hx hp); have HZ := hide (fun hp => Ly.nodup_step (f := (·.name)) HNo.out hx hp); have HWf := hide wf; clear hc hx HNo; obtain ⟨vp, vc, vk, rfl, x1, x2, x3, _⟩ := wf; obtain ⟨xa1, xd1, rfl, _⟩ := x1.len; obtain ⟨xa2, xd2, rfl, _⟩ := x2.len; obtain ⟨xa3, xd3, rfl, _⟩ := x3.len; clear x1 x2 x3; simp only [mthXL] at HWf; have r0 := hG.out 0 _ rfl; have r1 := hG.out 1 _ rfl; have r2 := hG.out 2 _ rfl; have r3 := hG.out 3 _ rfl; have r4 := hG.out 4 _ rfl; have r5 := hG.out 5 _ rfl; have r6 := hG.out 6 _ rfl; have r7 := hG.out 7 _ rfl; have r8 := hG.out 8 _ rfl; rw [Nat.add_zero] at r0
    try dsimp only at r0 r1 r2 r3 r4 r5 r6 r7 r8
    clear hG; have hlt' : (k : Int) < (m : Int) := by omega
    have hA : Below wr.heap.size wr (wr.alloc (.cells #[.string ⟨x.name.toArray⟩, .bool x.stat, .bool x.abst, .slice xa1 x.params.length xd1, .int .i64 x.ret.kind, .string ⟨x.ret.name.toArray⟩, .int .i64 x.locals, .slice xa2 x.code.length xd2, .slice xa3 x.catches.length xd3] 48)) := (Below.refl _ _).alloc (Nat.le_refl _) _; have HBA := hide (HB.out.trans (hA.mono HB.out.size)); have HBwA := hide (HBw.out.trans (hA.mono HBw.out.size)); have hbx := heap_alloc_new wr (.cells #[.string ⟨x.name.toArray⟩, .bool x.stat, .bool x.abst, .slice xa1 x.params.length xd1, .int .i64 x.ret.kind, .string ⟨x.ret.name.toArray⟩, .int .i64 x.locals, .slice xa2 x.code.length xd2, .slice xa3 x.catches.length xd3] 48); have HX1 := hide ((HBA.out.block _ (Ow.lt_of_blk HX0.out)).trans HX0.out)
    have HCf := hide (cfMt_any wp (l.take k) (.slice (some ⟨g, o, none⟩) k c) ⟨w.heap.size, 0, none⟩ ⟨wr.heap.size, 0, none⟩ (fun y => x.name == y.name) _ ((HRk.out k hk).on HBwA.out fun _ _ h => h) (by rw [List.length_take]; omega) fun y ys _ hp wx hb =>
     repM1_any wp x y _ ys w.heap.size wr.heap.size wx HWf.out hp (Nat.lt_of_lt_of_le (Ow.lt_of_blk HX1.out) hb.size) (Nat.lt_of_lt_of_le (Ow.lt_of_blk hbx) hb.size) ((cell_box ((hb.block _ (Ow.lt_of_blk HX1.out)).trans HX1.out) 0).trans rfl) (fun j u hu => (cell_box ((hb.block _ (Ow.lt_of_blk hbx)).trans hbx) j).trans (by simpa using hu)))
    have hkc : k <= c := Nat.le_trans hk hcap; have hkc' : (k : Int) <= (c : Int) := by omega
    generalize (l.take k).any (fun y => x.name == y.name) = px at HY HZ HCf; clear hbx hA HX1 HWf; go_wp2_with fail; refine HCf.out.mono ?_; rintro e w1 ⟨rfl, hb1⟩; have HB1 := hide (HBA.out.trans (hb1.mono HBA.out.size)); clear HCf hb1; cases px with
    | true =>
      have HY' := hide (HY.out rfl); clear HY HZ; go_wp2_with fail; go_ret; exact ⟨.yes HY'.out, HB0.out.trans (HB1.out.mono HB0.out.size)⟩
    | false =>
      have HZ' := hide (HZ.out rfl); clear HY HZ; go_wp2_with fail
      go_roundw
      case rel => exact ⟨k + 1, by omega, by go_num, HB1, HZ'⟩
      case measure => simp [intOf]; omega
  · have HZ : Hid ((l.map (·.name)).Nodup) := hide (by
     have := HNo.out
     rwa [List.take_of_length_le (by rw [<- HN.out]; omega)] at this)
    have hnl : ¬ ((k : Int) < (m : Int)) := by omega
    clear HNo; go_wp2_with fail; go_ret; exact ⟨.no fun h => h HZ.out, HBw.out⟩
end Go.Proofs.YtbbbnciejmdpfabGreatDoor
