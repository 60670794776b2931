/- What the laws of this seat lean on: 6 texts. -/
import Derived.Test.YtjlappamkfjlkabGreatDoorPkAd
import Derived.Deep.RegionHeld3
import Derived.Test.YtjlappamkfjlkabGreatDoorPkAa
import Derived.Test.YtjlappamkfjlkabGreatDoorPkAb
import Derived.Deep.RegionHeld
set_option maxRecDepth 100000
set_option maxHeartbeats 64000000
set_option linter.unusedVariables false
set_option linter.unusedSimpArgs false
namespace Go.Proofs.YtjlappamkfjlkabGreatDoor
open Go.RowKit
theorem ifTy_any (l : List Pp.Ty) (v : Value)  (p : Pp.Ty -> Bool) (w : World) (h : RowX w 2 TyX v l) (hn : l.length <= 100000)
 (hf : ∀ (x : Pp.Ty) (ys : List Value), x ∈ l -> TyX x ys -> ∀ wx, Below w.heap.size w wx -> Calls Tryz.prog 58 #[.agg ys.toArray] wx fun e w' => e = .returned (.bool (p x)) /\ Below wx.heap.size wx w') :
 Calls Tryz.prog 81 #[v, .func (.func 58) #[] #[]] w fun e w' => (∃ n : Int, e = .returned (.int .i64 n) /\ (0 <= n ↔ l.any p = true)) /\ Below w.heap.size w w' := by
 have HR := hide h; have HF := hide hf; obtain ⟨a, c, rfl, _⟩ := h.len; clear h hf; obtain ⟨m, hm⟩ : ∃ q, q = l.length := ⟨_, rfl⟩; have HN := hide hm; rw [<- hm] at HR hn ⊢; clear hm; obtain ⟨q, hq⟩ : ∃ q, q = l.any p := ⟨_, rfl⟩; have HQ := hide hq; rw [<- hq]; clear hq; go_enter Tryz.func81, Tryz.ntmps81; go_wp2_with fail
 go_loopw [8] (fun i wr => ∃ k : Nat, k <= m /\ i = .int .i64 k /\ Hid (Below w.heap.size w wr) /\ Hid ((l.take k).any p = false)) (fun i _ => m - (intOf i).toNat)
 case atStart => exact ⟨0, Nat.zero_le _, rfl, hide (Below.refl _ _), hide (by simp)⟩
 case round =>
  obtain ⟨k, hk, rfl, HB, HNo⟩ := hrel; by_cases hlt : k < m
  · obtain ⟨x, hx⟩ : ∃ x, l[k]? = some x := ⟨l[k]'(by rw [<- HN.out]; exact hlt), List.getElem?_eq_getElem _⟩
    obtain ⟨g, o, rfl, ys, wf, hc⟩ := Ow.row_at' HR.out hx; have hG := hide (hc wr HB.out); have HX := hide (HF.out x ys (List.mem_of_getElem? hx) wf wr HB.out); have HY := hide (fun hp => HQ.out.trans (Ly.any_stop (p := p) hx hp)); have HZ := hide (fun hp => Ly.any_take (p := p) HNo.out hx hp); clear hc hx HNo; generalize p x = px at HX HY HZ; obtain ⟨tk, tn⟩ := x; obtain ⟨rfl, _⟩ := wf; have r0 := hG.out 0 _ rfl; have r1 := hG.out 1 _ rfl; rw [Nat.add_zero] at r0
    try dsimp only at r0 r1
    clear hG; have hlt' : (k : Int) < (m : Int) := by omega
    have hm1 : (m : Int) <= 100000 := by omega
    go_wp2_with fail; refine HX.out.mono ?_; rintro e w1 ⟨rfl, hb1⟩; have HB1 := hide (HB.out.trans (hb1.mono HB.out.size)); clear HX hb1; cases px with
    | true =>
      have HY' := hide (HY.out rfl); clear HY HZ; go_wp2_with fail; go_ret; exact ⟨⟨_, rfl, iff_of_true (by omega) HY'.out⟩, HB1.out⟩
    | false =>
      have HZ' := hide (HZ.out rfl); clear HY HZ; go_wp2_with fail
      go_roundw
      case rel => exact ⟨k + 1, by omega, by go_num, HB1, HZ'⟩
      case measure => simp [intOf]; omega
  · have HZ : Hid (q = false) := hide (HQ.out.trans <| Ly.any_end HNo.out (by rw [<- HN.out]; omega))
    have hnl : ¬ ((k : Int) < (m : Int)) := by omega
    clear HNo; go_wp2_with fail; go_ret; exact ⟨⟨_, rfl, iff_of_false (by omega) (by rw [HZ.out]; decide)⟩, HB.out⟩
theorem cfTy_any (l : List Pp.Ty) (v : Value)  (p : Pp.Ty -> Bool) (w : World) (h : RowX w 2 TyX v l) (hn : l.length <= 100000)
 (hf : ∀ (x : Pp.Ty) (ys : List Value), x ∈ l -> TyX x ys -> ∀ wx, Below w.heap.size w wx -> Calls Tryz.prog 58 #[.agg ys.toArray] wx fun e w' => e = .returned (.bool (p x)) /\ Below wx.heap.size wx w') :
 Calls Tryz.prog 59 #[v, .func (.func 58) #[] #[]] w fun e w' => e = .returned (.bool (l.any p)) /\ Below w.heap.size w w' := by
 have HI := hide (ifTy_any l v  p w h hn hf); obtain ⟨a, c, rfl, _⟩ := h.len; clear h hf; go_enter Tryz.func59, Tryz.ntmps59; go_wp2_with fail; refine HI.out.mono ?_; rintro e w1 ⟨⟨m, rfl, hm⟩, hb⟩; have HM := hide hm; have HB := hide hb; clear HI hm hb; go_wp2_with fail; go_ret; refine ⟨?_, HB.out⟩; cases h : l.any p with
 | true => have := HM.out.2 h; simp; omega
 | false =>
   have : ¬ 0 <= m := fun h2 => by rw [HM.out.1 h2] at h; cases h
   simp; omega
theorem ifSl_any (l : List Pp.Slt) (v : Value) (c0 : Addr) (p : Pp.Slt -> Bool) (w : World) (h : RowX w 4 SltX v l) (hn : l.length <= 100000)
 (hf : ∀ (x : Pp.Slt) (ys : List Value), x ∈ l -> SltX x ys -> ∀ wx, Below w.heap.size w wx -> Calls Tryz.prog 66 #[.agg ys.toArray, .pointer (some c0)] wx fun e w' => e = .returned (.bool (p x)) /\ Below wx.heap.size wx w') :
 Calls Tryz.prog 86 #[v, .func (.func 66) #[] #[.pointer (some c0)]] w fun e w' => (∃ n : Int, e = .returned (.int .i64 n) /\ (0 <= n ↔ l.any p = true)) /\ Below w.heap.size w w' := by
 have HR := hide h; have HF := hide hf; obtain ⟨a, c, rfl, _⟩ := h.len; clear h hf; obtain ⟨m, hm⟩ : ∃ q, q = l.length := ⟨_, rfl⟩; have HN := hide hm; rw [<- hm] at HR hn ⊢; clear hm; obtain ⟨q, hq⟩ : ∃ q, q = l.any p := ⟨_, rfl⟩; have HQ := hide hq; rw [<- hq]; clear hq; go_enter Tryz.func86, Tryz.ntmps86; go_wp2_with fail
 go_loopw [8] (fun i wr => ∃ k : Nat, k <= m /\ i = .int .i64 k /\ Hid (Below w.heap.size w wr) /\ Hid ((l.take k).any p = false)) (fun i _ => m - (intOf i).toNat)
 case atStart => exact ⟨0, Nat.zero_le _, rfl, hide (Below.refl _ _), hide (by simp)⟩
 case round =>
  obtain ⟨k, hk, rfl, HB, HNo⟩ := hrel; by_cases hlt : k < m
  · obtain ⟨x, hx⟩ : ∃ x, l[k]? = some x := ⟨l[k]'(by rw [<- HN.out]; exact hlt), List.getElem?_eq_getElem _⟩
    obtain ⟨g, o, rfl, ys, wf, hc⟩ := Ow.row_at' HR.out hx; have hG := hide (hc wr HB.out); have HX := hide (HF.out x ys (List.mem_of_getElem? hx) wf wr HB.out); have HY := hide (fun hp => HQ.out.trans (Ly.any_stop (p := p) hx hp)); have HZ := hide (fun hp => Ly.any_take (p := p) HNo.out hx hp); clear hc hx HNo; generalize p x = px at HX HY HZ; obtain ⟨so, sn, ⟨sk, st⟩⟩ := x; have wf' : ys = [.string ⟨so.toArray⟩, .string ⟨sn.toArray⟩, .int .i64 sk, .string ⟨st.toArray⟩] := wf; subst wf'; have r0 := hG.out 0 _ rfl; have r1 := hG.out 1 _ rfl; have r2 := hG.out 2 _ rfl; have r3 := hG.out 3 _ rfl; rw [Nat.add_zero] at r0
    try dsimp only at r0 r1 r2 r3
    clear hG; have hlt' : (k : Int) < (m : Int) := by omega
    have hm1 : (m : Int) <= 100000 := by omega
    go_wp2_with fail; refine HX.out.mono ?_; rintro e w1 ⟨rfl, hb1⟩; have HB1 := hide (HB.out.trans (hb1.mono HB.out.size)); clear HX hb1; cases px with
    | true =>
      have HY' := hide (HY.out rfl); clear HY HZ; go_wp2_with fail; go_ret; exact ⟨⟨_, rfl, iff_of_true (by omega) HY'.out⟩, HB1.out⟩
    | false =>
      have HZ' := hide (HZ.out rfl); clear HY HZ; go_wp2_with fail
      go_roundw
      case rel => exact ⟨k + 1, by omega, by go_num, HB1, HZ'⟩
      case measure => simp [intOf]; omega
  · have HZ : Hid (q = false) := hide (HQ.out.trans <| Ly.any_end HNo.out (by rw [<- HN.out]; omega))
    have hnl : ¬ ((k : Int) < (m : Int)) := by omega
    clear HNo; go_wp2_with fail; go_ret; exact ⟨⟨_, rfl, iff_of_false (by omega) (by rw [HZ.out]; decide)⟩, HB.out⟩
theorem cfSl_any (l : List Pp.Slt) (v : Value) (c0 : Addr) (p : Pp.Slt -> Bool) (w : World) (h : RowX w 4 SltX v l) (hn : l.length <= 100000)
 (hf : ∀ (x : Pp.Slt) (ys : List Value), x ∈ l -> SltX x ys -> ∀ wx, Below w.heap.size w wx -> Calls Tryz.prog 66 #[.agg ys.toArray, .pointer (some c0)] wx fun e w' => e = .returned (.bool (p x)) /\ Below wx.heap.size wx w') :
 Calls Tryz.prog 65 #[v, .func (.func 66) #[] #[.pointer (some c0)]] w fun e w' => e = .returned (.bool (l.any p)) /\ Below w.heap.size w w' := by
 have HI := hide (ifSl_any l v c0 p w h hn hf); obtain ⟨a, c, rfl, _⟩ := h.len; clear h hf; go_enter Tryz.func65, Tryz.ntmps65; go_wp2_with fail; refine HI.out.mono ?_; rintro e w1 ⟨⟨m, rfl, hm⟩, hb⟩; have HM := hide hm; have HB := hide hb; clear HI hm hb; go_wp2_with fail; go_ret; refine ⟨?_, HB.out⟩; cases h : l.any p with
 | true => have := HM.out.2 h; simp; omega
 | false =>
   have : ¬ 0 <= m := fun h2 => by rw [HM.out.1 h2] at h; cases h
   simp; omega
theorem ifFl_any (l : List Pp.Fld) (v : Value) (c0 : Addr) (c1 : Addr) (p : Pp.Fld -> Bool) (w : World) (h : RowX w 4 FldX v l) (hn : l.length <= 100000)
 (hf : ∀ (x : Pp.Fld) (ys : List Value), x ∈ l -> FldX x ys -> ∀ wx, Below w.heap.size w wx -> Calls Tryz.prog 83 #[.agg ys.toArray, .pointer (some c0), .pointer (some c1)] wx fun e w' => e = .returned (.bool (p x)) /\ Below wx.heap.size wx w') :
 Calls Tryz.prog 97 #[v, .func (.func 83) #[] #[.pointer (some c0), .pointer (some c1)]] w fun e w' => (∃ n : Int, e = .returned (.int .i64 n) /\ (0 <= n ↔ l.any p = true)) /\ Below w.heap.size w w' := by
 have HR := hide h; have HF := hide hf; obtain ⟨a, c, rfl, _⟩ := h.len; clear h hf; obtain ⟨m, hm⟩ : ∃ q, q = l.length := ⟨_, rfl⟩; have HN := hide hm; rw [<- hm] at HR hn ⊢; clear hm; obtain ⟨q, hq⟩ : ∃ q, q = l.any p := ⟨_, rfl⟩; have HQ := hide hq; rw [<- hq]; clear hq; go_enter Tryz.func97, Tryz.ntmps97; go_wp2_with fail
 go_loopw [8] (fun i wr => ∃ k : Nat, k <= m /\ i = .int .i64 k /\ Hid (Below w.heap.size w wr) /\ Hid ((l.take k).any p = false)) (fun i _ => m - (intOf i).toNat)
 case atStart => exact ⟨0, Nat.zero_le _, rfl, hide (Below.refl _ _), hide (by simp)⟩
 case round =>
  obtain ⟨k, hk, rfl, HB, HNo⟩ := hrel; by_cases hlt : k < m
  · obtain ⟨x, hx⟩ : ∃ x, l[k]? = some x := ⟨l[k]'(by rw [<- HN.out]; exact hlt), List.getElem?_eq_getElem _⟩
    obtain ⟨g, o, rfl, ys, wf, hc⟩ := Ow.row_at' HR.out hx; have hG := hide (hc wr HB.out); have HX := hide (HF.out x ys (List.mem_of_getElem? hx) wf wr HB.out); have HY := hide (fun hp => HQ.out.trans (Ly.any_stop (p := p) hx hp)); have HZ := hide (fun hp => Ly.any_take (p := p) HNo.out hx hp); clear hc hx HNo; generalize p x = px at HX HY HZ; obtain ⟨fnm, ⟨fk, ftn⟩, fst⟩ := x; obtain ⟨rfl, _⟩ := wf; have r0 := hG.out 0 _ rfl; have r1 := hG.out 1 _ rfl; have r2 := hG.out 2 _ rfl; have r3 := hG.out 3 _ rfl; rw [Nat.add_zero] at r0
    try dsimp only at r0 r1 r2 r3
    clear hG; have hlt' : (k : Int) < (m : Int) := by omega
    have hm1 : (m : Int) <= 100000 := by omega
    go_wp2_with fail; refine HX.out.mono ?_; rintro e w1 ⟨rfl, hb1⟩; have HB1 := hide (HB.out.trans (hb1.mono HB.out.size)); clear HX hb1; cases px with
    | true =>
      have HY' := hide (HY.out rfl); clear HY HZ; go_wp2_with fail; go_ret; exact ⟨⟨_, rfl, iff_of_true (by omega) HY'.out⟩, HB1.out⟩
    | false =>
      have HZ' := hide (HZ.out rfl); clear HY HZ; go_wp2_with fail
      go_roundw
      case rel => exact ⟨k + 1, by omega, by go_num, HB1, HZ'⟩
      case measure => simp [intOf]; omega
  · have HZ : Hid (q = false) := hide (HQ.out.trans <| Ly.any_end HNo.out (by rw [<- HN.out]; omega))
    have hnl : ¬ ((k : Int) < (m : Int)) := by omega
    clear HNo; go_wp2_with fail; go_ret; exact ⟨⟨_, rfl, iff_of_false (by omega) (by rw [HZ.out]; decide)⟩, HB.out⟩
theorem cfFl_any (l : List Pp.Fld) (v : Value) (c0 : Addr) (c1 : Addr) (p : Pp.Fld -> Bool) (w : World) (h : RowX w 4 FldX v l) (hn : l.length <= 100000)
 (hf : ∀ (x : Pp.Fld) (ys : List Value), x ∈ l -> FldX x ys -> ∀ wx, Below w.heap.size w wx -> Calls Tryz.prog 83 #[.agg ys.toArray, .pointer (some c0), .pointer (some c1)] wx fun e w' => e = .returned (.bool (p x)) /\ Below wx.heap.size wx w') :
 Calls Tryz.prog 82 #[v, .func (.func 83) #[] #[.pointer (some c0), .pointer (some c1)]] w fun e w' => e = .returned (.bool (l.any p)) /\ Below w.heap.size w w' := by
 have HI := hide (ifFl_any l v c0 c1 p w h hn hf); obtain ⟨a, c, rfl, _⟩ := h.len; clear h hf; go_enter Tryz.func82, Tryz.ntmps82; go_wp2_with fail; refine HI.out.mono ?_; rintro e w1 ⟨⟨m, rfl, hm⟩, hb⟩; have HM := hide hm; have HB := hide hb; clear HI hm hb; go_wp2_with fail; go_ret; refine ⟨?_, HB.out⟩; cases h : l.any p with
 | true => have := HM.out.2 h; simp; omega
 | false =>
   have : ¬ 0 <= m := fun h2 => by rw [HM.out.1 h2] at h; cases h
   simp; omega
theorem ifMt_any (wp : World) (l : List Pp.XMth) (v : Value) (c0 : Addr) (c1 : Addr) (p : Pp.XMth -> Bool) (w : World) (h : RowX w 9 (MthX wp) v l) (hn : l.length <= 100000)
 (hf : ∀ (x : Pp.XMth) (ys : List Value), x ∈ l -> (MthX wp) x ys -> ∀ wx, Below w.heap.size w wx -> Calls Tryz.prog 85 #[.agg ys.toArray, .pointer (some c0), .pointer (some c1)] wx fun e w' => e = .returned (.bool (p x)) /\ Below wx.heap.size wx w') :
 Calls Tryz.prog 98 #[v, .func (.func 85) #[] #[.pointer (some c0), .pointer (some c1)]] w fun e w' => (∃ n : Int, e = .returned (.int .i64 n) /\ (0 <= n ↔ l.any p = true)) /\ Below w.heap.size w w' := by
 have HR := hide h; have HF := hide hf; obtain ⟨a, c, rfl, _⟩ := h.len; clear h hf; obtain ⟨m, hm⟩ : ∃ q, q = l.length := ⟨_, rfl⟩; have HN := hide hm; rw [<- hm] at HR hn ⊢; clear hm; obtain ⟨q, hq⟩ : ∃ q, q = l.any p := ⟨_, rfl⟩; have HQ := hide hq; rw [<- hq]; clear hq; go_enter Tryz.func98, Tryz.ntmps98; go_wp2_with fail
 go_loopw [8] (fun i wr => ∃ k : Nat, k <= m /\ i = .int .i64 k /\ Hid (Below w.heap.size w wr) /\ Hid ((l.take k).any p = false)) (fun i _ => m - (intOf i).toNat)
 case atStart => exact ⟨0, Nat.zero_le _, rfl, hide (Below.refl _ _), hide (by simp)⟩
 case round =>
  obtain ⟨k, hk, rfl, HB, HNo⟩ := hrel; by_cases hlt : k < m
  · obtain ⟨x, hx⟩ : ∃ x, l[k]? = some x := ⟨l[k]'(by rw [<- HN.out]; exact hlt), List.getElem?_eq_getElem _⟩
    obtain ⟨g, o, rfl, ys, wf, hc⟩ := Ow.row_at' HR.out hx; have hG := hide (hc wr HB.out); have HX := hide (HF.out x ys (List.mem_of_getElem? hx) wf wr HB.out); have HY := hide (fun hp => HQ.out.trans (Ly.any_stop (p := p) hx hp)); have HZ := hide (fun hp => Ly.any_take (p := p) HNo.out hx hp); clear hc hx HNo; generalize p x = px at HX HY HZ; obtain ⟨vp, vc, vk, rfl, x1, x2, x3, _⟩ := wf; obtain ⟨va1, vd1, rfl, _⟩ := x1.len; obtain ⟨va2, vd2, rfl, _⟩ := x2.len; obtain ⟨va3, vd3, rfl, _⟩ := x3.len; clear x1 x2 x3; have r0 := hG.out 0 _ rfl; have r1 := hG.out 1 _ rfl; have r2 := hG.out 2 _ rfl; have r3 := hG.out 3 _ rfl; have r4 := hG.out 4 _ rfl; have r5 := hG.out 5 _ rfl; have r6 := hG.out 6 _ rfl; have r7 := hG.out 7 _ rfl; have r8 := hG.out 8 _ rfl; rw [Nat.add_zero] at r0
    try dsimp only at r0 r1 r2 r3 r4 r5 r6 r7 r8
    clear hG; have hlt' : (k : Int) < (m : Int) := by omega
    have hm1 : (m : Int) <= 100000 := by omega
    go_wp2_with fail; refine HX.out.mono ?_; rintro e w1 ⟨rfl, hb1⟩; have HB1 := hide (HB.out.trans (hb1.mono HB.out.size)); clear HX hb1; cases px with
    | true =>
      have HY' := hide (HY.out rfl); clear HY HZ; go_wp2_with fail; go_ret; exact ⟨⟨_, rfl, iff_of_true (by omega) HY'.out⟩, HB1.out⟩
    | false =>
      have HZ' := hide (HZ.out rfl); clear HY HZ; go_wp2_with fail
      go_roundw
      case rel => exact ⟨k + 1, by omega, by go_num, HB1, HZ'⟩
      case measure => simp [intOf]; omega
  · have HZ : Hid (q = false) := hide (HQ.out.trans <| Ly.any_end HNo.out (by rw [<- HN.out]; omega))
    have hnl : ¬ ((k : Int) < (m : Int)) := by omega
    clear HNo; go_wp2_with fail; go_ret; exact ⟨⟨_, rfl, iff_of_false (by omega) (by rw [HZ.out]; decide)⟩, HB.out⟩
theorem cfMt_any (wp : World) (l : List Pp.XMth) (v : Value) (c0 : Addr) (c1 : Addr) (p : Pp.XMth -> Bool) (w : World) (h : RowX w 9 (MthX wp) v l) (hn : l.length <= 100000)
 (hf : ∀ (x : Pp.XMth) (ys : List Value), x ∈ l -> (MthX wp) x ys -> ∀ wx, Below w.heap.size w wx -> Calls Tryz.prog 85 #[.agg ys.toArray, .pointer (some c0), .pointer (some c1)] wx fun e w' => e = .returned (.bool (p x)) /\ Below wx.heap.size wx w') :
 Calls Tryz.prog 84 #[v, .func (.func 85) #[] #[.pointer (some c0), .pointer (some c1)]] w fun e w' => e = .returned (.bool (l.any p)) /\ Below w.heap.size w w' := by
 have HI := hide (ifMt_any wp l v c0 c1 p w h hn hf); obtain ⟨a, c, rfl, _⟩ := h.len; clear h hf; go_enter Tryz.func84, Tryz.ntmps84; go_wp2_with fail; refine HI.out.mono ?_; rintro e w1 ⟨⟨m, rfl, hm⟩, hb⟩; have HM := hide hm; have HB := hide hb; clear HI hm hb; go_wp2_with fail; go_ret; refine ⟨?_, HB.out⟩; cases h : l.any p with
 | true => have := HM.out.2 h; simp; omega
 | false =>
   have : ¬ 0 <= m := fun h2 => by rw [HM.out.1 h2] at h; cases h
   simp; omega
theorem tfind_any (bs : List Nat) (nm : Nat -> Pp.Bs) (v : Value) (n : Pp.Bs) (w : World) (h : RowX w 1 PtrX v bs) (hn : bs.length <= 1000) (hc : ∀ b ∈ bs, w.cell? ⟨b, 0, none⟩ = some (.string ⟨(nm b).toArray⟩)) :
 Calls Tryz.prog 19 #[v, .string ⟨n.toArray⟩] w fun e w' => e = .returned (.tuple #[.pointer ((bs.find? fun b => nm b == n).map fun b => ⟨b, 0, none⟩), .bool (bs.find? fun b => nm b == n).isSome]) /\ w' = w := by
 have HR := hide h; have HC := hide hc; obtain ⟨a, c, rfl, _⟩ := h.len; clear h hc; obtain ⟨m, hm⟩ : ∃ q, q = bs.length := ⟨_, rfl⟩; have HN := hide hm; rw [<- hm] at HR hn ⊢; clear hm; go_enter Tryz.func19, Tryz.ntmps19; go_wp2_with fail
 go_loop [10] (fun i => ∃ k : Nat, k <= m /\ i = .int .i64 k /\ Hid ((bs.take k).any (fun b => nm b == n) = false)) (fun i => m - (intOf i).toNat)
 case atStart => exact ⟨0, Nat.zero_le _, rfl, hide (by simp)⟩
 case round =>
  obtain ⟨k, hk, rfl, HNo⟩ := hrel; by_cases hlt : k < m
  · obtain ⟨x, hx⟩ : ∃ x, bs[k]? = some x := ⟨bs[k]'(by rw [<- HN.out]; exact hlt), List.getElem?_eq_getElem _⟩
    obtain ⟨g, o, rfl, ys, wf, hc⟩ := Ow.row_at' HR.out hx; have hwf : ys = [.pointer (some ⟨x, 0, none⟩)] := wf; subst hwf; have r0 := hc w (Below.refl _ _) 0 _ rfl; rw [Nat.add_zero, Nat.mul_one] at r0; have c0 := HC.out x (List.mem_of_getElem? hx); have hlt' : (k : Int) < (m : Int) := by omega
    by_cases hb : nm x = n
    · have HF : Hid (bs.find? (fun b => nm b == n) = some x) := hide (Ly.find_take HNo.out hx (by simp [hb]))
      rw [hb] at c0; clear hx hb hc wf HNo; go_wp2_with fail; go_ret2; rw [HF.out]; exact ⟨rfl, rfl⟩
    · have hne : (nm x == n) = false := by simp [hb]
      have HNo2 := hide (Ly.any_take HNo.out hx hne); clear hx hb hc wf HNo; generalize nm x = y0 at *
      go_wp2_with fail
      go_round
      case rel => exact ⟨k + 1, by omega, by go_num, HNo2⟩
      case measure => simp [intOf]; omega
  · have HF : Hid (bs.find? (fun b => nm b == n) = none) := hide (Ly.find_end HNo.out (by rw [<- HN.out]; omega))
    have hnl : ¬ ((k : Int) < (m : Int)) := by omega
    clear HNo; go_wp2_with fail; go_ret2; rw [HF.out]; exact ⟨rfl, rfl⟩
theorem isVoid_any (t : Pp.Ty) (ys : List Value) (w : World) (h : TyX t ys) :
 Calls Tryz.prog 58 #[.agg ys.toArray] w fun e w' => e = .returned (.bool (t.kind == 1)) /\ Below w.heap.size w w' := by
 obtain ⟨rfl, _⟩ := h; simp only [tyL]; have HB := hide ((Below.refl w.heap.size w).alloc (Nat.le_refl _) (.cells #[.int .i64 t.kind, .string ⟨t.name.toArray⟩] 23)); go_enter Tryz.func58, Tryz.ntmps58; go_wp2_with fail; go_ret; exact ⟨rfl, HB.out⟩
theorem anyVoid_any (l : List Pp.Ty) (v : Value) (w : World) (h : RowX w 2 TyX v l) (hn : l.length <= 1000) :
 Calls Tryz.prog 59 #[v, .func (.func 58) #[] #[]] w fun e w' => e = .returned (.bool (l.any fun t => t.kind == 1)) /\ Below w.heap.size w w' :=
 cfTy_any l v (fun t => t.kind == 1) w h (by omega) fun x ys _ hp wx _ => isVoid_any x ys wx hp
theorem hs1_any (s : Pp.Slt) (ys : List Value) (c : Addr) (n : Pp.Bs) (w : World) (h : SltX s ys) (hc : w.cell? c = some (.string ⟨n.toArray⟩)) (hl : c.block < w.heap.size) :
 Calls Tryz.prog 66 #[.agg ys.toArray, .pointer (some c)] w fun e w' => e = .returned (.bool (s.name == n)) /\ Below w.heap.size w w' := by
 have hys : ys = [.string ⟨s.owner.toArray⟩, .string ⟨s.name.toArray⟩, .int .i64 s.ty.kind, .string ⟨s.ty.name.toArray⟩] := h; subst hys; have hb0 := (Below.refl w.heap.size w).alloc (Nat.le_refl _) (.cells #[.string ⟨s.owner.toArray⟩, .string ⟨s.name.toArray⟩, .int .i64 s.ty.kind, .string ⟨s.ty.name.toArray⟩] 66); have HB := hide hb0; have c0 := (hb0.cell hl).trans hc; clear hc hb0 h; go_enter Tryz.func66, Tryz.ntmps66; go_wp2_with fail; go_ret; exact ⟨rfl, HB.out⟩
namespace Hr
open Pp
def objN : Bs := [79, 98, 106, 101, 99, 116]
def errN : Bs := [69, 114, 114, 111, 114]
def subs : List Bs := [[78, 117, 108, 108, 69, 114, 114, 111, 114], [82, 97, 110, 103, 101, 69, 114, 114, 111, 114], [67, 97, 115, 116, 69, 114, 114, 111, 114], [78, 117, 109, 69, 114, 114, 111, 114], [83, 105, 122, 101, 69, 114, 114, 111, 114], [68, 101, 112, 116, 104, 69, 114, 114, 111, 114]]
def plain (n s : Bs) : XCls := ⟨n, false, s, [], [], []⟩
def base : List XCls := plain objN [] :: plain errN objN :: subs.map (plain · errN)
def allL (cs : List XCls) : List XCls := base ++ cs
def placeL : List XCls -> Bs -> Option Nat
 | [], _ => none
 | c :: l, n => if c.name = n then some 0 else (placeL l n).map (· + 1)
def pairP : Option Nat -> Nat × Bool
 | none => (0, false)
 | some k => (k, true)
theorem placeL_lt {l : List XCls} {n : Bs} {k : Nat} (h : placeL l n = some k) : ∃ c, l[k]? = some c /\ c.name = n /\ ∀ (j : Nat) (d : XCls), j < k -> l[j]? = some d -> d.name ≠ n := by
 induction l generalizing k with
 | nil => simp [placeL] at h
 | cons a l ih =>
   unfold placeL at h
   split at h
   · cases h
     exact ⟨a, rfl, by assumption, fun j d hj => absurd hj (Nat.not_lt_zero _)⟩
   · rename_i hne
     cases hp : placeL l n with
     | none => rw [hp] at h; cases h
     | some m =>
       rw [hp] at h; cases h; obtain ⟨c, h1, h2, h3⟩ := ih hp; refine ⟨c, by simpa using h1, h2, fun j d hj hd => ?_⟩
       cases j with
       | zero => simp at hd; subst hd; exact hne
       | succ j => exact h3 j d (by have : j + 1 < m + 1 := hj; omega) (by simpa using hd)
theorem placeL_none {l : List XCls} {n : Bs} : placeL l n = none ↔ ∀ (j : Nat) (d : XCls), l[j]? = some d -> d.name ≠ n := by
 induction l with
 | nil => simp [placeL]
 | cons a l ih =>
   unfold placeL
   split
   · rename_i h
     constructor
     · intro h'; cases h'
     · intro h'; exact absurd h (h' 0 a rfl)
   · rename_i h
     constructor
     · intro h' j d hd
       cases j with
       | zero => simp at hd; subst hd; exact h
       | succ j =>
         refine ih.1 ?_ j d (by simpa using hd)
         cases hp : placeL l n with
         | none => rfl
         | some m => rw [hp] at h'; cases h'
     · intro h'
       rw [ih.2 fun j d hd => h' (j + 1) d (by simpa using hd)]
       rfl
theorem placeL_at {l : List XCls} {n : Bs} {k : Nat} {c : XCls} (h : l[k]? = some c) (hc : c.name = n) (hf : ∀ (j : Nat) (d : XCls), j < k -> l[j]? = some d -> d.name ≠ n) : placeL l n = some k := by
 cases hp : placeL l n with
 | none => exact absurd hc (placeL_none.1 hp k c h)
 | some m =>
   obtain ⟨d, h1, h2, h3⟩ := placeL_lt hp
   rcases Nat.lt_trichotomy m k with hm | hm | hm
   · exact absurd h2 (hf m d hm h1)
   · rw [hm]
   · exact absurd hc (h3 k c hm h)
def oneL (l : List XCls) : Prop := ∀ (j : Nat) (c : XCls), l[j]? = some c -> placeL l c.name = some j
def oneB (l : List XCls) : Bool := (List.range l.length).all fun j => match l[j]? with | none => true | some c => placeL l c.name == some j
theorem oneB_iff (l : List XCls) : oneB l = true ↔ oneL l := by
 unfold oneB oneL; simp only [List.all_eq_true, List.mem_range]; constructor
 · intro h j c hc
   have := h j (by rw [List.getElem?_eq_some_iff] at hc; exact hc.1)
   rw [hc] at this
   simpa using this
 · intro h j hj
   have hc := List.getElem?_eq_getElem hj; rw [hc]
   simpa using h j _ hc
def superL (c : XCls) : Option Bs := if c.iface = true \/ c.name = objN then none else if c.super = [] then some objN else some c.super
def pairS : Option Bs -> Bs × Bool
 | none => ([], false)
 | some s => (s, true)
def upL (l : List XCls) (want : Bool) (n : Bs) : Option Nat := match placeL l n with
 | none => none
 | some k => match l[k]? with
   | none => none
   | some c => if c.iface = want then some k else none
def supL (l : List XCls) (c : XCls) : Option (List Nat) := match superL c with
 | none => some []
 | some n => (upL l false n).map fun k => [k]
def ifsL (l : List XCls) : List Bs -> Option (List Nat)
 | [] => some []
 | n :: ns => match upL l true n with
   | none => none
   | some k => (ifsL l ns).map fun r => k :: r
def upsL (l : List XCls) (c : XCls) : Option (List Nat) := match supL l c with
 | none => none
 | some a => (ifsL l c.ifaces).map fun b => a ++ b
def growL (l : List XCls) : List XCls -> Option (List (List Nat))
 | [] => some []
 | c :: cs => match upsL l c with
   | none => none
   | some u => (growL l cs).map fun r => u :: r
theorem ifsL_step {l : List XCls} {ns : List Bs} {k : Nat} {n : Bs} (h : ns[k]? = some n) : ifsL l (ns.take (k + 1)) = match ifsL l (ns.take k), upL l true n with | some r, some u => some (r ++ [u]) | _, _ => none := by
 induction ns generalizing k with
 | nil => simp at h
 | cons a ns ih =>
   cases k with
   | zero =>
     simp at h; subst h; simp only [Nat.zero_add, List.take_succ_cons, List.take_zero, ifsL]; cases upL l true a <;> rfl
   | succ k =>
     have := ih (k := k) (by simpa using h)
     rw [List.take_succ_cons, List.take_succ_cons]; simp only [ifsL]; rw [this]; cases upL l true a with
     | none => rfl
     | some u =>
       cases ifsL l (ns.take k) with
       | none => rfl
       | some r => cases upL l true n <;> rfl
theorem ifsL_take {l : List XCls} {ns : List Bs} {k : Nat} (h : ifsL l (ns.take k) = none) : ifsL l ns = none := by
 induction ns generalizing k with
 | nil => simp [ifsL] at h
 | cons a ns ih =>
   cases k with
   | zero => simp [ifsL] at h
   | succ k =>
     rw [List.take_succ_cons] at h; simp only [ifsL] at h ⊢; cases hu : upL l true a with
     | none => rfl
     | some u =>
       rw [hu] at h; cases hr : ifsL l (ns.take k) with
       | none => rw [ih hr]; rfl
       | some r => simp [hr] at h
theorem growL_step {l cs : List XCls} {k : Nat} {c : XCls} (h : cs[k]? = some c) : growL l (cs.take (k + 1)) = match growL l (cs.take k), upsL l c with | some r, some u => some (r ++ [u]) | _, _ => none := by
 induction cs generalizing k with
 | nil => simp at h
 | cons a cs ih =>
   cases k with
   | zero =>
     simp at h; subst h; simp only [Nat.zero_add, List.take_succ_cons, List.take_zero, growL]; cases upsL l a <;> rfl
   | succ k =>
     have := ih (k := k) (by simpa using h)
     rw [List.take_succ_cons, List.take_succ_cons]; simp only [growL]; rw [this]; cases upsL l a with
     | none => rfl
     | some u =>
       cases growL l (cs.take k) with
       | none => rfl
       | some r => cases upsL l c <;> rfl
theorem growL_take {l cs : List XCls} {k : Nat} (h : growL l (cs.take k) = none) : growL l cs = none := by
 induction cs generalizing k with
 | nil => simp [growL] at h
 | cons a cs ih =>
   cases k with
   | zero => simp [growL] at h
   | succ k =>
     rw [List.take_succ_cons] at h; simp only [growL] at h ⊢; cases hu : upsL l a with
     | none => rfl
     | some u =>
       rw [hu] at h; cases hr : growL l (cs.take k) with
       | none => rw [ih hr]; rfl
       | some r => simp [hr] at h
theorem growL_len {l cs : List XCls} {r : List (List Nat)} (h : growL l cs = some r) : r.length = cs.length := by
 induction cs generalizing r with
 | nil => simp [growL] at h; subst h; rfl
 | cons a cs ih =>
   simp only [growL] at h; cases hu : upsL l a with
   | none => rw [hu] at h; cases h
   | some u =>
     rw [hu] at h; cases hr : growL l cs with
     | none => rw [hr] at h; cases h
     | some s => rw [hr] at h; cases h; simp [ih hr]
theorem growL_at {l cs : List XCls} {r : List (List Nat)} (h : growL l cs = some r) {k : Nat} {c : XCls} (hc : cs[k]? = some c) : ∃ u, r[k]? = some u /\ upsL l c = some u := by
 induction cs generalizing r k with
 | nil => simp at hc
 | cons a cs ih =>
   simp only [growL] at h; cases hu : upsL l a with
   | none => rw [hu] at h; cases h
   | some u =>
     rw [hu] at h; cases hr : growL l cs with
     | none => rw [hr] at h; cases h
     | some s =>
       rw [hr] at h; cases h; cases k with
       | zero => simp at hc; subst hc; exact ⟨u, rfl, hu⟩
       | succ k => obtain ⟨v, h1, h2⟩ := ih hr (k := k) (by simpa using hc); exact ⟨v, by simpa using h1, h2⟩
theorem upL_lt {l : List XCls} {b : Bool} {n : Bs} {k : Nat} (h : upL l b n = some k) : k < l.length /\ placeL l n = some k /\ ∃ c, l[k]? = some c /\ c.iface = b := by
 unfold upL at h; cases hp : placeL l n with
 | none => rw [hp] at h; cases h
 | some m =>
   rw [hp] at h; obtain ⟨c, h1, h2, h3⟩ := placeL_lt hp; simp only [h1] at h
   split at h
   · cases h; exact ⟨(List.getElem?_eq_some_iff.1 h1).1, rfl, c, h1, by assumption⟩
   · cases h
theorem ifsL_lt {l : List XCls} {ns : List Bs} {r : List Nat} (h : ifsL l ns = some r) : ∀ k ∈ r, k < l.length := by
 induction ns generalizing r with
 | nil => simp [ifsL] at h; subst h; simp
 | cons a ns ih =>
   simp only [ifsL] at h; cases hu : upL l true a with
   | none => rw [hu] at h; cases h
   | some u =>
     rw [hu] at h; cases hr : ifsL l ns with
     | none => rw [hr] at h; cases h
     | some s =>
       rw [hr] at h; cases h; intro k hk
       rcases List.mem_cons.1 hk with rfl | hk
       · exact (upL_lt hu).1
       · exact ih hr k hk
theorem upsL_lt {l : List XCls} {c : XCls} {r : List Nat} (h : upsL l c = some r) : ∀ k ∈ r, k < l.length := by
 unfold upsL at h; cases hs : supL l c with
 | none => rw [hs] at h; cases h
 | some a =>
   rw [hs] at h; cases hi : ifsL l c.ifaces with
   | none => rw [hi] at h; cases h
   | some b =>
     rw [hi] at h; cases h; intro k hk
     rcases List.mem_append.1 hk with hk | hk
     · unfold supL at hs
       cases hsu : superL c with
       | none => rw [hsu] at hs; cases hs; simp at hk
       | some n =>
         rw [hsu] at hs; cases hu : upL l false n with
         | none => simp only [hu] at hs; cases hs
         | some u => simp only [hu] at hs; cases hs; simp at hk; subst hk; exact (upL_lt hu).1
     · exact ifsL_lt hi k hk
theorem growL_lt {l cs : List XCls} {r : List (List Nat)} (h : growL l cs = some r) : ∀ u ∈ r, ∀ k ∈ u, k < l.length := by
 induction cs generalizing r with
 | nil => simp [growL] at h; subst h; simp
 | cons a cs ih =>
   simp only [growL] at h; cases hu : upsL l a with
   | none => rw [hu] at h; cases h
   | some u =>
     rw [hu] at h; cases hr : growL l cs with
     | none => rw [hr] at h; cases h
     | some s =>
       rw [hr] at h; cases h; intro v hv
       rcases List.mem_cons.1 hv with rfl | hv
       · exact upsL_lt hu
       · exact ih hr v hv
def Step (up : List (List Nat)) (i j : Nat) : Prop := ∃ u, up[i]? = some u /\ j ∈ u
def FarN (up : List (List Nat)) : Nat -> Nat -> Nat -> Prop
 | 0, i, j => Step up i j
 | n + 1, i, k => ∃ j, FarN up n i j /\ Step up j k
def Far (up : List (List Nat)) (i j : Nat) : Prop := ∃ n, FarN up n i j
theorem Far.one {up : List (List Nat)} {i j : Nat} (h : Step up i j) : Far up i j := ⟨0, h⟩
theorem Far.more {up : List (List Nat)} {i j k : Nat} (h : Far up i j) (s : Step up j k) : Far up i k := by
 obtain ⟨n, h⟩ := h; exact ⟨n + 1, j, h, s⟩
theorem Far.ind {up : List (List Nat)} {C : Nat -> Nat -> Prop} (one : ∀ {i j : Nat}, Step up i j -> C i j) (more : ∀ {i j k : Nat}, Far up i j -> Step up j k -> C i j -> C i k) {i j : Nat} (h : Far up i j) : C i j := by
 obtain ⟨n, h⟩ := h
 induction n generalizing j with
 | zero => exact one h
 | succ n ih => obtain ⟨m, h1, h2⟩ := h; exact more ⟨n, h1⟩ h2 (ih h1)
theorem Far.trans {up : List (List Nat)} {i j k : Nat} (h : Far up i j) (h' : Far up j k) : Far up i k := by
 revert h; refine Far.ind (C := fun j k => Far up i j -> Far up i k) (fun s h => .more h s) (fun _ s ih h => .more (ih h) s) h'
def Ring (up : List (List Nat)) : Prop := ∃ i, Far up i i
end Hr
namespace Hr
theorem row_at {α : Type} {W : World} {sz : Nat} {P : α -> List Value -> Prop} {a : Option Addr} {n c : Nat} {l : List α} (h : RowX W sz P (.slice a n c) l) {k : Nat} {x : α} (hx : l[k]? = some x) : ∃ b o, a = some ⟨b, o, none⟩ /\ ∃ ys, P x ys /\ ∀ wx, Below W.heap.size W wx -> ∀ (j : Nat) (u : Value), ys[j]? = some u -> wx.cell? ⟨b, o + k * sz + j, none⟩ = some u := by
 obtain ⟨a', c', e, hc, h⟩ := h; injection e with e1 e2 e3; subst e1
 rcases h with rfl | ⟨b, o, rfl, hlt, hr⟩
 · simp at hx
 · obtain ⟨ys, h1, h2⟩ := hr k x hx
   exact ⟨b, o, rfl, ys, h1, fun wx hb j u hj => (hb.cell (by exact hlt)).trans (h2 j u hj)⟩
end Hr
theorem superOf_any (c : Pp.XCls) (ys : List Value) (w : World) (h : ClsX w c ys) :
 Calls Tryz.prog 56 #[.agg ys.toArray] w fun e w' => e = .returned (.tuple #[.string ⟨(Hr.pairS (Hr.superL c)).1.toArray⟩, .bool (Hr.pairS (Hr.superL c)).2]) /\ Below w.heap.size w w' := by
 obtain ⟨vp, vc, vk, rfl, p1, i1, k1, z1⟩ := h; clear p1 i1 k1; simp only [clsXL, List.toArray]; by_cases hi : c.iface = true
 · have hr : Hid (Hr.superL c = none) := hide (by simp [Hr.superL, hi])
   rw [hi]; generalize (⟨c.name.toArray⟩ : ByteArray) = y0; generalize (⟨c.super.toArray⟩ : ByteArray) = y2; rw [hr.out]; go_enter Tryz.func56, Tryz.ntmps56; go_wp2; go_ret2; exact ⟨rfl, (Below.refl _ _).alloc (Nat.le_refl _) _⟩
 · have hi' : c.iface = false := by simpa using hi
   by_cases hn : c.name = Hr.objN
   · have hr : Hid (Hr.superL c = none) := hide (by simp [Hr.superL, hn])
     rw [hi', hn, hr.out]; generalize (⟨c.super.toArray⟩ : ByteArray) = y2; go_enter Tryz.func56, Tryz.ntmps56; go_wp2; go_ret2; exact ⟨rfl, (Below.refl _ _).alloc (Nat.le_refl _) _⟩
   · have hne : (c.name == Hr.objN) = false := by simp [hn]
     simp only [Hr.objN] at hne; by_cases hs : c.super = []
     · have hr : Hid (Hr.superL c = some Hr.objN) := hide (by simp [Hr.superL, hn, hi', hs])
       rw [hi', hs, hr.out]; generalize c.name = y0 at *
       go_enter Tryz.func56, Tryz.ntmps56; go_wp2; go_ret2; exact ⟨rfl, (Below.refl _ _).alloc (Nat.le_refl _) _⟩
     · have hse : (c.super == []) = false := by simp [hs]
       have hr : Hid (Hr.superL c = some c.super) := hide (by simp [Hr.superL, hn, hi', hs])
       rw [hi', hr.out]; simp only [Hr.pairS]; clear hr hs hn; generalize c.name = y0 at *
       generalize c.super = y2 at *
       go_enter Tryz.func56, Tryz.ntmps56; go_wp2; go_ret2; exact ⟨rfl, (Below.refl _ _).alloc (Nat.le_refl _) _⟩
theorem place_any (l : List Pp.XCls) (v : Value) (n : Pp.Bs) (w : World) (h : RowX w 6 (ClsX w) v l) (hlen : l.length <= maxLen) :
 Calls Tryz.prog 55 #[v, .string ⟨n.toArray⟩] w fun e w' => e = .returned (.tuple #[.int .i64 (Hr.pairP (Hr.placeL l n)).1, .bool (Hr.pairP (Hr.placeL l n)).2]) /\ Below w.heap.size w w' := by
 obtain ⟨pa, pc, rfl, _⟩ := h.len; have H := hide h; obtain ⟨m, hm⟩ : ∃ m, m = l.length := ⟨_, rfl⟩; have HM := hide hm; rw [<- hm] at H hlen ⊢; clear h hm; have hmx : (m : Int) <= 9223372036854775807 := by unfold maxLen at hlen; omega
 go_enter Tryz.func55, Tryz.ntmps55; go_wp2_with fail
 go_loopw [10] (fun i wr => ∃ k : Nat, k <= m /\ i = .int .i64 k /\ Below w.heap.size w wr /\ Hid (∀ (j : Nat) (d : Pp.XCls), j < k -> l[j]? = some d -> d.name ≠ n)) (fun i _ => m - (intOf i).toNat)
 case atStart => exact ⟨0, by omega, rfl, Below.refl _ _, hide fun j d hj => absurd hj (Nat.not_lt_zero _)⟩
 case round =>
  obtain ⟨k, hk, rfl, hbw, hp⟩ := hrel; by_cases hlt : k < m
  · obtain ⟨x, hx⟩ : ∃ x, l[k]? = some x := ⟨l[k]'(by rw [<- HM.out]; exact hlt), List.getElem?_eq_getElem _⟩
    obtain ⟨g1, o1, rfl, ys1, w1', hc1⟩ := Hr.row_at H.out hx; have hG := hide (hc1 wr hbw); clear hc1; obtain ⟨vp, vc, vk, rfl, x1, x2, x3, _⟩ := w1'; obtain ⟨va1, vd1, rfl, _⟩ := x1.len; obtain ⟨va2, vd2, rfl, _⟩ := x2.len; obtain ⟨va3, vd3, rfl, _⟩ := x3.len; clear x1 x2 x3; have r0 := hG.out 0 _ rfl; have r1 := hG.out 1 _ rfl; have r2 := hG.out 2 _ rfl; have r3 := hG.out 3 _ rfl; have r4 := hG.out 4 _ rfl; have r5 := hG.out 5 _ rfl; rw [Nat.add_zero] at r0; clear hG; have hlt' : (k : Int) < (m : Int) := by omega
    generalize x.iface = y1 at *
    generalize (⟨x.super.toArray⟩ : ByteArray) = y2 at *
    generalize x.ifaces.length = n1 at *
    generalize x.fields.length = n2 at *
    generalize x.methods.length = n3 at *
    by_cases hn : x.name = n
    · have hr := hide (Hr.placeL_at hx hn hp.out)
      rw [hn] at r0; clear hx hn; go_wp2; go_ret2; rw [hr.out]; exact ⟨rfl, hbw.alloc hbw.size _⟩
    · have hne : (x.name == n) = false := by simp [hn]
      have hr : Hid (∀ (j : Nat) (d : Pp.XCls), j < k + 1 -> l[j]? = some d -> d.name ≠ n) := hide fun j d hj hd => by
       rcases Nat.lt_or_eq_of_le (Nat.le_of_lt_succ hj) with h | rfl
       · exact hp.out j d h hd
       · rw [hx] at hd; cases hd; exact hn
      clear hx hn hp; generalize x.name = y0 at *
      go_wp2
      go_roundw
      case rel => exact ⟨k + 1, by omega, by go_num, hbw.alloc hbw.size _, hr⟩
      case measure => simp [intOf]; omega
  · have hr : Hid (Hr.placeL l n = none) := hide (Hr.placeL_none.2 fun j d hd => hp.out j d (by have := (List.getElem?_eq_some_iff.1 hd).1; have := HM.out; omega) hd)
    go_wp2; go_ret2; rw [hr.out]; exact ⟨rfl, hbw⟩
theorem twice_any (l : List Pp.XCls) (v : Value) (w : World) (h : RowX w 6 (ClsX w) v l) (hlen : l.length <= maxLen) :
 Calls Tryz.prog 33 #[v] w fun e w' => e = .returned (.bool (!Hr.oneB l)) /\ Below w.heap.size w w' := by
 have HP := hide (fun (n : Pp.Bs) wx (hb : Below w.heap.size w wx) => place_any l v n wx (h.on hb fun _ _ h => h.on hb) hlen); obtain ⟨pa, pc, rfl, _⟩ := h.len; have H := hide h; obtain ⟨m, hm⟩ : ∃ m, m = l.length := ⟨_, rfl⟩; have HM := hide hm; rw [<- hm] at H hlen HP ⊢; clear h hm; have hmx : (m : Int) <= 9223372036854775807 := by unfold maxLen at hlen; omega
 go_enter Tryz.func33, Tryz.ntmps33; go_wp2_with fail
 go_loopw [9] (fun i wr => ∃ k : Nat, k <= m /\ i = .int .i64 k /\ Below w.heap.size w wr /\ Hid (∀ (j : Nat) (d : Pp.XCls), j < k -> l[j]? = some d -> Hr.placeL l d.name = some j)) (fun i _ => m - (intOf i).toNat)
 case atStart => exact ⟨0, by omega, rfl, Below.refl _ _, hide fun j d hj => absurd hj (Nat.not_lt_zero _)⟩
 case round =>
  obtain ⟨k, hk, rfl, hbw, hp⟩ := hrel; by_cases hlt : k < m
  · obtain ⟨x, hx⟩ : ∃ x, l[k]? = some x := ⟨l[k]'(by rw [<- HM.out]; exact hlt), List.getElem?_eq_getElem _⟩
    obtain ⟨g1, o1, rfl, ys1, w1', hc1⟩ := Hr.row_at H.out hx; have hG := hide (hc1 wr hbw); clear hc1; obtain ⟨vp, vc, vk, rfl, x1, x2, x3, _⟩ := w1'; obtain ⟨va1, vd1, rfl, _⟩ := x1.len; obtain ⟨va2, vd2, rfl, _⟩ := x2.len; obtain ⟨va3, vd3, rfl, _⟩ := x3.len; clear x1 x2 x3; have r0 := hG.out 0 _ rfl; have r1 := hG.out 1 _ rfl; have r2 := hG.out 2 _ rfl; have r3 := hG.out 3 _ rfl; have r4 := hG.out 4 _ rfl; have r5 := hG.out 5 _ rfl; rw [Nat.add_zero] at r0; clear hG; have hlt' : (k : Int) < (m : Int) := by omega
    have HC := hide (fun wx (hb : Below w.heap.size w wx) => HP.out x.name wx hb)
    have hst : Hid (Hr.placeL l x.name = some k -> ∀ (j : Nat) (d : Pp.XCls), j < k + 1 -> l[j]? = some d -> Hr.placeL l d.name = some j) := hide fun he j d hj hd => by
     rcases Nat.lt_or_eq_of_le (Nat.le_of_lt_succ hj) with h | rfl
     · exact hp.out j d h hd
     · rw [hx] at hd; cases hd; exact he
    have hpl : ∃ q c, Hr.placeL l x.name = some q /\ l[q]? = some c /\ q <= k := by
     cases hq : Hr.placeL l x.name with
     | none => exact absurd rfl (Hr.placeL_none.1 hq k x hx)
     | some q =>
       obtain ⟨c, h1, h2, h3⟩ := Hr.placeL_lt hq; refine ⟨q, c, rfl, h1, ?_⟩
       rcases Nat.lt_or_ge k q with h | h
       · exact absurd rfl (h3 k x h hx)
       · exact h
    obtain ⟨q, cq, hq, _, hqk⟩ := hpl
    have hno : Hid (q ≠ k -> Hr.oneB l = false) := hide fun hne => by
     cases hb : Hr.oneB l with
     | false => rfl
     | true =>
       have := (Hr.oneB_iff l).1 hb k x hx; rw [hq] at this; cases this; exact absurd rfl hne
    rw [hq] at hst
    have HQ : Hid (∀ wx, Below w.heap.size w wx -> Calls Tryz.prog 55 #[.slice (some ⟨g1, o1, none⟩) m pc, .string ⟨x.name.toArray⟩] wx fun e w' => e = .returned (.tuple #[.int .i64 q, .bool true]) /\ Below wx.heap.size wx w') := hide fun wx hb => by
     have := HC.out wx hb; rw [hq] at this; exact this
    clear HC hq hx; generalize (⟨x.name.toArray⟩ : ByteArray) = y0 at *
    generalize x.iface = y1 at *
    generalize (⟨x.super.toArray⟩ : ByteArray) = y2 at *
    generalize x.ifaces.length = n1 at *
    generalize x.fields.length = n2 at *
    generalize x.methods.length = n3 at *
    have HB := hide hbw; by_cases hne : q = k
    · have hr := hst.out (by rw [hne])
      subst hne; clear hst hno; go_wp2_with fail; refine (HQ.out _ (HB.out.alloc HB.out.size _)).mono ?_; rintro e wq ⟨rfl, hbq⟩; have HW := hide ((HB.out.alloc HB.out.size (.cells #[.string y0, .bool y1, .string y2, .slice va1 n1 vd1, .slice va2 n2 vd2, .slice va3 n3 vd3] 36)).trans (hbq.mono (HB.out.alloc HB.out.size _).size)); clear HQ hbq HB hbw; go_wp2_with fail
      go_roundw
      case rel => exact ⟨q + 1, by omega, by go_num, HW.out, hide hr⟩
      case measure => simp [intOf]; omega
    · have hr := hide (hno.out hne)
      have hne' : (q : Int) ≠ (k : Int) := by omega
      clear hst hno; go_wp2_with fail; refine (HQ.out _ (HB.out.alloc HB.out.size _)).mono ?_; rintro e wq ⟨rfl, hbq⟩; have HW := hide ((HB.out.alloc HB.out.size (.cells #[.string y0, .bool y1, .string y2, .slice va1 n1 vd1, .slice va2 n2 vd2, .slice va3 n3 vd3] 36)).trans (hbq.mono (HB.out.alloc HB.out.size _).size)); clear HQ hbq HB hbw; go_wp2_with fail; go_ret; rw [hr.out]; exact ⟨rfl, HW.out⟩
  · have hr : Hid (Hr.oneB l = true) := hide ((Hr.oneB_iff l).2 fun j d hd => hp.out j d (by have := (List.getElem?_eq_some_iff.1 hd).1; have := HM.out; omega) hd)
    go_wp2; go_ret; rw [hr.out]; exact ⟨rfl, hbw⟩
namespace Ow
theorem info_of {P : Program} {t : TypeId} {s z b : Nat} (h : (P.info? t).map (fun i => (i.zero.map (fun z => z.cells.size), i.size, i.bytes)) = some (some z, s, b)) : ∃ i, P.info? t = some i /\ i.zero.map (fun z => z.cells.size) = some z /\ i.size = s /\ i.bytes = b := by
 cases hi : P.info? t with
 | none => rw [hi] at h; cases h
 | some i => rw [hi] at h; simp only [Option.map_some, Option.some.injEq, Prod.mk.injEq] at h; exact ⟨i, rfl, h.1, h.2.1, h.2.2⟩
theorem i_str : (Tryz.prog.info? 9).map (fun i => (i.zero.map (fun z => z.cells.size), i.size, i.bytes)) = some (some 1, 1, 16) := by kernel_rfl
theorem i_ty : (Tryz.prog.info? 23).map (fun i => (i.zero.map (fun z => z.cells.size), i.size, i.bytes)) = some (some 2, 2, 24) := by kernel_rfl
theorem i_fld : (Tryz.prog.info? 88).map (fun i => (i.zero.map (fun z => z.cells.size), i.size, i.bytes)) = some (some 4, 4, 48) := by kernel_rfl
theorem i_ins : (Tryz.prog.info? 45).map (fun i => (i.zero.map (fun z => z.cells.size), i.size, i.bytes)) = some (some 4, 4, 48) := by kernel_rfl
theorem i_ctc : (Tryz.prog.info? 113).map (fun i => (i.zero.map (fun z => z.cells.size), i.size, i.bytes)) = some (some 4, 4, 40) := by kernel_rfl
theorem i_mth : (Tryz.prog.info? 29).map (fun i => (i.zero.map (fun z => z.cells.size), i.size, i.bytes)) = some (some 9, 9, 128) := by kernel_rfl
theorem i_cls : (Tryz.prog.info? 36).map (fun i => (i.zero.map (fun z => z.cells.size), i.size, i.bytes)) = some (some 6, 6, 112) := by kernel_rfl
theorem fz_blk {w : World} {b : Nat} {c : Array Value} {t : TypeId} (h : w.heap[b]? = some (.cells c t (0, 0))) (k : Nat) : w.frozen? ⟨b, k, none⟩ = false := by simp [World.frozen?, h]
def Ty (w : World) (b : Nat) (t : TypeId) : Prop := ∃ c f, w.heap[b]? = some (.cells c t f)
theorem Ty.set {w : World} {b : Nat} {t : TypeId} (h : Ty w b t) (g k : Nat) (u : Value) : Ty (w.setCell ⟨g, k, none⟩ u) b t := by
 obtain ⟨c, f, h⟩ := h; by_cases e : g = b
 · subst e
   have hlt := lt_of_blk h; have h' : w.heap[g] = .cells c t f := by simpa [Array.getElem?_eq_getElem hlt] using h
   refine ⟨c.setIfInBounds k u, f, ?_⟩; show (w.heap.modify g _)[g]? = _; rw [Array.getElem?_eq_getElem (by simpa using hlt), Array.getElem_modify_self, h']
   rfl
 · exact ⟨c, f, by rw [Below.heap_setCell _ _ _ _ (fun h2 => e h2.symm)]; exact h⟩
theorem Kx.set {w : World} {b : Nat} {t : TypeId} (h : Ty w b t) (k : Nat) (u : Value) : Kx t w (w.setCell ⟨b, k, none⟩ u) := by
 obtain ⟨c, f, h⟩ := h
 exact ⟨by simp, fun i x e g hi h1 => by
  rw [Below.heap_setCell _ _ _ _ (fun e2 => by subst e2; rw [h] at hi; simp at hi; exact h1 hi.2.1.symm)]; exact hi⟩
theorem blk_alloc2a (w : World) (o o' : Obj) : ((w.alloc o).alloc o').heap[w.heap.size]? = some o := by
 exact (heap_alloc_old (w.alloc o) o' (by simp)).trans (heap_alloc_new w o)
theorem blk_alloc2b (w : World) (o o' : Obj) : ((w.alloc o).alloc o').heap[w.heap.size + 1]? = some o' := by
 have := heap_alloc_new (w.alloc o) o'
 simpa using this
theorem bel_alloc2 (w : World) (o o' : Obj) : Below w.heap.size w ((w.alloc o).alloc o') := ((Below.refl w.heap.size w).alloc (Nat.le_refl _) o).alloc (by simp) o'
end Ow
end Go.Proofs.YtjlappamkfjlkabGreatDoor
