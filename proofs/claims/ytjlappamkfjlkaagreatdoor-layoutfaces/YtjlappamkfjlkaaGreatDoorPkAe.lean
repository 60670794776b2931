/- What the laws of this seat lean on: 6 texts. -/
import Derived.Test.YtjlappamkfjlkaaGreatDoorPkAd
import Derived.Deep.RegionHeld3
import Derived.Test.YtjlappamkfjlkaaGreatDoorPkAa
import Derived.Test.YtjlappamkfjlkaaGreatDoorPkAb
import Derived.Deep.RegionHeld
set_option maxRecDepth 100000
set_option maxHeartbeats 64000000
set_option linter.unusedVariables false
set_option linter.unusedSimpArgs false
namespace Go.Proofs.YtjlappamkfjlkaaGreatDoor
open Go.RowKit
theorem ifTy_any (l : List Pp.Ty) (v : Value)  (p : Pp.Ty -> Bool) (w : World) (h : RowX w 2 TyX v l) (hn : l.length <= 100000)
 (hf : ∀ (x : Pp.Ty) (ys : List Value), x ∈ l -> TyX x ys -> ∀ wx, Below w.heap.size w wx -> Calls Tryz.prog 119 #[.agg ys.toArray] wx fun e w' => e = .returned (.bool (p x)) /\ Below wx.heap.size wx w') :
 Calls Tryz.prog 142 #[v, .func (.func 119) #[] #[]] w fun e w' => (∃ n : Int, e = .returned (.int .i64 n) /\ (0 <= n ↔ l.any p = true)) /\ Below w.heap.size w w' := by
 have HR := hide h; have HF := hide hf; obtain ⟨a, c, rfl, _⟩ := h.len; clear h hf; obtain ⟨m, hm⟩ : ∃ q, q = l.length := ⟨_, rfl⟩; have HN := hide hm; rw [<- hm] at HR hn ⊢; clear hm; obtain ⟨q, hq⟩ : ∃ q, q = l.any p := ⟨_, rfl⟩; have HQ := hide hq; rw [<- hq]; clear hq; go_enter Tryz.func142, Tryz.ntmps142; go_wp2_with fail
 go_loopw [8] (fun i wr => ∃ k : Nat, k <= m /\ i = .int .i64 k /\ Hid (Below w.heap.size w wr) /\ Hid ((l.take k).any p = false)) (fun i _ => m - (intOf i).toNat)
 case atStart => exact ⟨0, Nat.zero_le _, rfl, hide (Below.refl _ _), hide (by simp)⟩
 case round =>
  obtain ⟨k, hk, rfl, HB, HNo⟩ := hrel; by_cases hlt : k < m
  · obtain ⟨x, hx⟩ : ∃ x, l[k]? = some x := ⟨l[k]'(by rw [<- HN.out]; exact hlt), List.getElem?_eq_getElem _⟩
    obtain ⟨g, o, rfl, ys, wf, hc⟩ := Ow.row_at' HR.out hx; have hG := hide (hc wr HB.out); have HX := hide (HF.out x ys (List.mem_of_getElem? hx) wf wr HB.out); have HY := hide (fun hp => HQ.out.trans (Ly.any_stop (p := p) hx hp)); have HZ := hide (fun hp => Ly.any_take (p := p) HNo.out hx hp); clear hc hx HNo; generalize p x = px at HX HY HZ; obtain ⟨tk, tn⟩ := x; obtain ⟨rfl, _⟩ := wf; have r0 := hG.out 0 _ rfl; have r1 := hG.out 1 _ rfl; rw [Nat.add_zero] at r0
    try dsimp only at r0 r1
    clear hG; have hlt' : (k : Int) < (m : Int) := by omega
    have hm1 : (m : Int) <= 100000 := by omega
    go_wp2_with fail; refine HX.out.mono ?_; rintro e w1 ⟨rfl, hb1⟩; have HB1 := hide (HB.out.trans (hb1.mono HB.out.size)); clear HX hb1; cases px with
    | true =>
      have HY' := hide (HY.out rfl); clear HY HZ; go_wp2_with fail; go_ret; exact ⟨⟨_, rfl, iff_of_true (by omega) HY'.out⟩, HB1.out⟩
    | false =>
      have HZ' := hide (HZ.out rfl); clear HY HZ; go_wp2_with fail
      go_roundw
      case rel => exact ⟨k + 1, by omega, by go_num, HB1, HZ'⟩
      case measure => simp [intOf]; omega
  · have HZ : Hid (q = false) := hide (HQ.out.trans <| Ly.any_end HNo.out (by rw [<- HN.out]; omega))
    have hnl : ¬ ((k : Int) < (m : Int)) := by omega
    clear HNo; go_wp2_with fail; go_ret; exact ⟨⟨_, rfl, iff_of_false (by omega) (by rw [HZ.out]; decide)⟩, HB.out⟩
theorem cfTy_any (l : List Pp.Ty) (v : Value)  (p : Pp.Ty -> Bool) (w : World) (h : RowX w 2 TyX v l) (hn : l.length <= 100000)
 (hf : ∀ (x : Pp.Ty) (ys : List Value), x ∈ l -> TyX x ys -> ∀ wx, Below w.heap.size w wx -> Calls Tryz.prog 119 #[.agg ys.toArray] wx fun e w' => e = .returned (.bool (p x)) /\ Below wx.heap.size wx w') :
 Calls Tryz.prog 120 #[v, .func (.func 119) #[] #[]] w fun e w' => e = .returned (.bool (l.any p)) /\ Below w.heap.size w w' := by
 have HI := hide (ifTy_any l v  p w h hn hf); obtain ⟨a, c, rfl, _⟩ := h.len; clear h hf; go_enter Tryz.func120, Tryz.ntmps120; go_wp2_with fail; refine HI.out.mono ?_; rintro e w1 ⟨⟨m, rfl, hm⟩, hb⟩; have HM := hide hm; have HB := hide hb; clear HI hm hb; go_wp2_with fail; go_ret; refine ⟨?_, HB.out⟩; cases h : l.any p with
 | true => have := HM.out.2 h; simp; omega
 | false =>
   have : ¬ 0 <= m := fun h2 => by rw [HM.out.1 h2] at h; cases h
   simp; omega
theorem ifSl_any (l : List Pp.Slt) (v : Value) (c0 : Addr) (p : Pp.Slt -> Bool) (w : World) (h : RowX w 4 SltX v l) (hn : l.length <= 100000)
 (hf : ∀ (x : Pp.Slt) (ys : List Value), x ∈ l -> SltX x ys -> ∀ wx, Below w.heap.size w wx -> Calls Tryz.prog 127 #[.agg ys.toArray, .pointer (some c0)] wx fun e w' => e = .returned (.bool (p x)) /\ Below wx.heap.size wx w') :
 Calls Tryz.prog 147 #[v, .func (.func 127) #[] #[.pointer (some c0)]] w fun e w' => (∃ n : Int, e = .returned (.int .i64 n) /\ (0 <= n ↔ l.any p = true)) /\ Below w.heap.size w w' := by
 have HR := hide h; have HF := hide hf; obtain ⟨a, c, rfl, _⟩ := h.len; clear h hf; obtain ⟨m, hm⟩ : ∃ q, q = l.length := ⟨_, rfl⟩; have HN := hide hm; rw [<- hm] at HR hn ⊢; clear hm; obtain ⟨q, hq⟩ : ∃ q, q = l.any p := ⟨_, rfl⟩; have HQ := hide hq; rw [<- hq]; clear hq; go_enter Tryz.func147, Tryz.ntmps147; go_wp2_with fail
 go_loopw [8] (fun i wr => ∃ k : Nat, k <= m /\ i = .int .i64 k /\ Hid (Below w.heap.size w wr) /\ Hid ((l.take k).any p = false)) (fun i _ => m - (intOf i).toNat)
 case atStart => exact ⟨0, Nat.zero_le _, rfl, hide (Below.refl _ _), hide (by simp)⟩
 case round =>
  obtain ⟨k, hk, rfl, HB, HNo⟩ := hrel; by_cases hlt : k < m
  · obtain ⟨x, hx⟩ : ∃ x, l[k]? = some x := ⟨l[k]'(by rw [<- HN.out]; exact hlt), List.getElem?_eq_getElem _⟩
    obtain ⟨g, o, rfl, ys, wf, hc⟩ := Ow.row_at' HR.out hx; have hG := hide (hc wr HB.out); have HX := hide (HF.out x ys (List.mem_of_getElem? hx) wf wr HB.out); have HY := hide (fun hp => HQ.out.trans (Ly.any_stop (p := p) hx hp)); have HZ := hide (fun hp => Ly.any_take (p := p) HNo.out hx hp); clear hc hx HNo; generalize p x = px at HX HY HZ; obtain ⟨so, sn, ⟨sk, st⟩⟩ := x; have wf' : ys = [.string ⟨so.toArray⟩, .string ⟨sn.toArray⟩, .int .i64 sk, .string ⟨st.toArray⟩] := wf; subst wf'; have r0 := hG.out 0 _ rfl; have r1 := hG.out 1 _ rfl; have r2 := hG.out 2 _ rfl; have r3 := hG.out 3 _ rfl; rw [Nat.add_zero] at r0
    try dsimp only at r0 r1 r2 r3
    clear hG; have hlt' : (k : Int) < (m : Int) := by omega
    have hm1 : (m : Int) <= 100000 := by omega
    go_wp2_with fail; refine HX.out.mono ?_; rintro e w1 ⟨rfl, hb1⟩; have HB1 := hide (HB.out.trans (hb1.mono HB.out.size)); clear HX hb1; cases px with
    | true =>
      have HY' := hide (HY.out rfl); clear HY HZ; go_wp2_with fail; go_ret; exact ⟨⟨_, rfl, iff_of_true (by omega) HY'.out⟩, HB1.out⟩
    | false =>
      have HZ' := hide (HZ.out rfl); clear HY HZ; go_wp2_with fail
      go_roundw
      case rel => exact ⟨k + 1, by omega, by go_num, HB1, HZ'⟩
      case measure => simp [intOf]; omega
  · have HZ : Hid (q = false) := hide (HQ.out.trans <| Ly.any_end HNo.out (by rw [<- HN.out]; omega))
    have hnl : ¬ ((k : Int) < (m : Int)) := by omega
    clear HNo; go_wp2_with fail; go_ret; exact ⟨⟨_, rfl, iff_of_false (by omega) (by rw [HZ.out]; decide)⟩, HB.out⟩
theorem cfSl_any (l : List Pp.Slt) (v : Value) (c0 : Addr) (p : Pp.Slt -> Bool) (w : World) (h : RowX w 4 SltX v l) (hn : l.length <= 100000)
 (hf : ∀ (x : Pp.Slt) (ys : List Value), x ∈ l -> SltX x ys -> ∀ wx, Below w.heap.size w wx -> Calls Tryz.prog 127 #[.agg ys.toArray, .pointer (some c0)] wx fun e w' => e = .returned (.bool (p x)) /\ Below wx.heap.size wx w') :
 Calls Tryz.prog 126 #[v, .func (.func 127) #[] #[.pointer (some c0)]] w fun e w' => e = .returned (.bool (l.any p)) /\ Below w.heap.size w w' := by
 have HI := hide (ifSl_any l v c0 p w h hn hf); obtain ⟨a, c, rfl, _⟩ := h.len; clear h hf; go_enter Tryz.func126, Tryz.ntmps126; go_wp2_with fail; refine HI.out.mono ?_; rintro e w1 ⟨⟨m, rfl, hm⟩, hb⟩; have HM := hide hm; have HB := hide hb; clear HI hm hb; go_wp2_with fail; go_ret; refine ⟨?_, HB.out⟩; cases h : l.any p with
 | true => have := HM.out.2 h; simp; omega
 | false =>
   have : ¬ 0 <= m := fun h2 => by rw [HM.out.1 h2] at h; cases h
   simp; omega
theorem ifFl_any (l : List Pp.Fld) (v : Value) (c0 : Addr) (c1 : Addr) (p : Pp.Fld -> Bool) (w : World) (h : RowX w 4 FldX v l) (hn : l.length <= 100000)
 (hf : ∀ (x : Pp.Fld) (ys : List Value), x ∈ l -> FldX x ys -> ∀ wx, Below w.heap.size w wx -> Calls Tryz.prog 144 #[.agg ys.toArray, .pointer (some c0), .pointer (some c1)] wx fun e w' => e = .returned (.bool (p x)) /\ Below wx.heap.size wx w') :
 Calls Tryz.prog 161 #[v, .func (.func 144) #[] #[.pointer (some c0), .pointer (some c1)]] w fun e w' => (∃ n : Int, e = .returned (.int .i64 n) /\ (0 <= n ↔ l.any p = true)) /\ Below w.heap.size w w' := by
 have HR := hide h; have HF := hide hf; obtain ⟨a, c, rfl, _⟩ := h.len; clear h hf; obtain ⟨m, hm⟩ : ∃ q, q = l.length := ⟨_, rfl⟩; have HN := hide hm; rw [<- hm] at HR hn ⊢; clear hm; obtain ⟨q, hq⟩ : ∃ q, q = l.any p := ⟨_, rfl⟩; have HQ := hide hq; rw [<- hq]; clear hq; go_enter Tryz.func161, Tryz.ntmps161; go_wp2_with fail
 go_loopw [8] (fun i wr => ∃ k : Nat, k <= m /\ i = .int .i64 k /\ Hid (Below w.heap.size w wr) /\ Hid ((l.take k).any p = false)) (fun i _ => m - (intOf i).toNat)
 case atStart => exact ⟨0, Nat.zero_le _, rfl, hide (Below.refl _ _), hide (by simp)⟩
 case round =>
  obtain ⟨k, hk, rfl, HB, HNo⟩ := hrel; by_cases hlt : k < m
  · obtain ⟨x, hx⟩ : ∃ x, l[k]? = some x := ⟨l[k]'(by rw [<- HN.out]; exact hlt), List.getElem?_eq_getElem _⟩
    obtain ⟨g, o, rfl, ys, wf, hc⟩ := Ow.row_at' HR.out hx; have hG := hide (hc wr HB.out); have HX := hide (HF.out x ys (List.mem_of_getElem? hx) wf wr HB.out); have HY := hide (fun hp => HQ.out.trans (Ly.any_stop (p := p) hx hp)); have HZ := hide (fun hp => Ly.any_take (p := p) HNo.out hx hp); clear hc hx HNo; generalize p x = px at HX HY HZ; obtain ⟨fnm, ⟨fk, ftn⟩, fst⟩ := x; obtain ⟨rfl, _⟩ := wf; have r0 := hG.out 0 _ rfl; have r1 := hG.out 1 _ rfl; have r2 := hG.out 2 _ rfl; have r3 := hG.out 3 _ rfl; rw [Nat.add_zero] at r0
    try dsimp only at r0 r1 r2 r3
    clear hG; have hlt' : (k : Int) < (m : Int) := by omega
    have hm1 : (m : Int) <= 100000 := by omega
    go_wp2_with fail; refine HX.out.mono ?_; rintro e w1 ⟨rfl, hb1⟩; have HB1 := hide (HB.out.trans (hb1.mono HB.out.size)); clear HX hb1; cases px with
    | true =>
      have HY' := hide (HY.out rfl); clear HY HZ; go_wp2_with fail; go_ret; exact ⟨⟨_, rfl, iff_of_true (by omega) HY'.out⟩, HB1.out⟩
    | false =>
      have HZ' := hide (HZ.out rfl); clear HY HZ; go_wp2_with fail
      go_roundw
      case rel => exact ⟨k + 1, by omega, by go_num, HB1, HZ'⟩
      case measure => simp [intOf]; omega
  · have HZ : Hid (q = false) := hide (HQ.out.trans <| Ly.any_end HNo.out (by rw [<- HN.out]; omega))
    have hnl : ¬ ((k : Int) < (m : Int)) := by omega
    clear HNo; go_wp2_with fail; go_ret; exact ⟨⟨_, rfl, iff_of_false (by omega) (by rw [HZ.out]; decide)⟩, HB.out⟩
theorem cfFl_any (l : List Pp.Fld) (v : Value) (c0 : Addr) (c1 : Addr) (p : Pp.Fld -> Bool) (w : World) (h : RowX w 4 FldX v l) (hn : l.length <= 100000)
 (hf : ∀ (x : Pp.Fld) (ys : List Value), x ∈ l -> FldX x ys -> ∀ wx, Below w.heap.size w wx -> Calls Tryz.prog 144 #[.agg ys.toArray, .pointer (some c0), .pointer (some c1)] wx fun e w' => e = .returned (.bool (p x)) /\ Below wx.heap.size wx w') :
 Calls Tryz.prog 143 #[v, .func (.func 144) #[] #[.pointer (some c0), .pointer (some c1)]] w fun e w' => e = .returned (.bool (l.any p)) /\ Below w.heap.size w w' := by
 have HI := hide (ifFl_any l v c0 c1 p w h hn hf); obtain ⟨a, c, rfl, _⟩ := h.len; clear h hf; go_enter Tryz.func143, Tryz.ntmps143; go_wp2_with fail; refine HI.out.mono ?_; rintro e w1 ⟨⟨m, rfl, hm⟩, hb⟩; have HM := hide hm; have HB := hide hb; clear HI hm hb; go_wp2_with fail; go_ret; refine ⟨?_, HB.out⟩; cases h : l.any p with
 | true => have := HM.out.2 h; simp; omega
 | false =>
   have : ¬ 0 <= m := fun h2 => by rw [HM.out.1 h2] at h; cases h
   simp; omega
theorem ifMt_any (wp : World) (l : List Pp.XMth) (v : Value) (c0 : Addr) (c1 : Addr) (p : Pp.XMth -> Bool) (w : World) (h : RowX w 9 (MthX wp) v l) (hn : l.length <= 100000)
 (hf : ∀ (x : Pp.XMth) (ys : List Value), x ∈ l -> (MthX wp) x ys -> ∀ wx, Below w.heap.size w wx -> Calls Tryz.prog 146 #[.agg ys.toArray, .pointer (some c0), .pointer (some c1)] wx fun e w' => e = .returned (.bool (p x)) /\ Below wx.heap.size wx w') :
 Calls Tryz.prog 162 #[v, .func (.func 146) #[] #[.pointer (some c0), .pointer (some c1)]] w fun e w' => (∃ n : Int, e = .returned (.int .i64 n) /\ (0 <= n ↔ l.any p = true)) /\ Below w.heap.size w w' := by
 have HR := hide h; have HF := hide hf; obtain ⟨a, c, rfl, _⟩ := h.len; clear h hf; obtain ⟨m, hm⟩ : ∃ q, q = l.length := ⟨_, rfl⟩; have HN := hide hm; rw [<- hm] at HR hn ⊢; clear hm; obtain ⟨q, hq⟩ : ∃ q, q = l.any p := ⟨_, rfl⟩; have HQ := hide hq; rw [<- hq]; clear hq; go_enter Tryz.func162, Tryz.ntmps162; go_wp2_with fail
 go_loopw [8] (fun i wr => ∃ k : Nat, k <= m /\ i = .int .i64 k /\ Hid (Below w.heap.size w wr) /\ Hid ((l.take k).any p = false)) (fun i _ => m - (intOf i).toNat)
 case atStart => exact ⟨0, Nat.zero_le _, rfl, hide (Below.refl _ _), hide (by simp)⟩
 case round =>
  obtain ⟨k, hk, rfl, HB, HNo⟩ := hrel; by_cases hlt : k < m
  · obtain ⟨x, hx⟩ : ∃ x, l[k]? = some x := ⟨l[k]'(by rw [<- HN.out]; exact hlt), List.getElem?_eq_getElem _⟩
    obtain ⟨g, o, rfl, ys, wf, hc⟩ := Ow.row_at' HR.out hx; have hG := hide (hc wr HB.out); have HX := hide (HF.out x ys (List.mem_of_getElem? hx) wf wr HB.out); have HY := hide (fun hp => HQ.out.trans (Ly.any_stop (p := p) hx hp)); have HZ := hide (fun hp => Ly.any_take (p := p) HNo.out hx hp); clear hc hx HNo; generalize p x = px at HX HY HZ; obtain ⟨vp, vc, vk, rfl, x1, x2, x3, _⟩ := wf; obtain ⟨va1, vd1, rfl, _⟩ := x1.len; obtain ⟨va2, vd2, rfl, _⟩ := x2.len; obtain ⟨va3, vd3, rfl, _⟩ := x3.len; clear x1 x2 x3; have r0 := hG.out 0 _ rfl; have r1 := hG.out 1 _ rfl; have r2 := hG.out 2 _ rfl; have r3 := hG.out 3 _ rfl; have r4 := hG.out 4 _ rfl; have r5 := hG.out 5 _ rfl; have r6 := hG.out 6 _ rfl; have r7 := hG.out 7 _ rfl; have r8 := hG.out 8 _ rfl; rw [Nat.add_zero] at r0
    try dsimp only at r0 r1 r2 r3 r4 r5 r6 r7 r8
    clear hG; have hlt' : (k : Int) < (m : Int) := by omega
    have hm1 : (m : Int) <= 100000 := by omega
    go_wp2_with fail; refine HX.out.mono ?_; rintro e w1 ⟨rfl, hb1⟩; have HB1 := hide (HB.out.trans (hb1.mono HB.out.size)); clear HX hb1; cases px with
    | true =>
      have HY' := hide (HY.out rfl); clear HY HZ; go_wp2_with fail; go_ret; exact ⟨⟨_, rfl, iff_of_true (by omega) HY'.out⟩, HB1.out⟩
    | false =>
      have HZ' := hide (HZ.out rfl); clear HY HZ; go_wp2_with fail
      go_roundw
      case rel => exact ⟨k + 1, by omega, by go_num, HB1, HZ'⟩
      case measure => simp [intOf]; omega
  · have HZ : Hid (q = false) := hide (HQ.out.trans <| Ly.any_end HNo.out (by rw [<- HN.out]; omega))
    have hnl : ¬ ((k : Int) < (m : Int)) := by omega
    clear HNo; go_wp2_with fail; go_ret; exact ⟨⟨_, rfl, iff_of_false (by omega) (by rw [HZ.out]; decide)⟩, HB.out⟩
theorem cfMt_any (wp : World) (l : List Pp.XMth) (v : Value) (c0 : Addr) (c1 : Addr) (p : Pp.XMth -> Bool) (w : World) (h : RowX w 9 (MthX wp) v l) (hn : l.length <= 100000)
 (hf : ∀ (x : Pp.XMth) (ys : List Value), x ∈ l -> (MthX wp) x ys -> ∀ wx, Below w.heap.size w wx -> Calls Tryz.prog 146 #[.agg ys.toArray, .pointer (some c0), .pointer (some c1)] wx fun e w' => e = .returned (.bool (p x)) /\ Below wx.heap.size wx w') :
 Calls Tryz.prog 145 #[v, .func (.func 146) #[] #[.pointer (some c0), .pointer (some c1)]] w fun e w' => e = .returned (.bool (l.any p)) /\ Below w.heap.size w w' := by
 have HI := hide (ifMt_any wp l v c0 c1 p w h hn hf); obtain ⟨a, c, rfl, _⟩ := h.len; clear h hf; go_enter Tryz.func145, Tryz.ntmps145; go_wp2_with fail; refine HI.out.mono ?_; rintro e w1 ⟨⟨m, rfl, hm⟩, hb⟩; have HM := hide hm; have HB := hide hb; clear HI hm hb; go_wp2_with fail; go_ret; refine ⟨?_, HB.out⟩; cases h : l.any p with
 | true => have := HM.out.2 h; simp; omega
 | false =>
   have : ¬ 0 <= m := fun h2 => by rw [HM.out.1 h2] at h; cases h
   simp; omega
theorem tfind_any (bs : List Nat) (nm : Nat -> Pp.Bs) (v : Value) (n : Pp.Bs) (w : World) (h : RowX w 1 PtrX v bs) (hn : bs.length <= 1000) (hc : ∀ b ∈ bs, w.cell? ⟨b, 0, none⟩ = some (.string ⟨(nm b).toArray⟩)) :
 Calls Tryz.prog 44 #[v, .string ⟨n.toArray⟩] w fun e w' => e = .returned (.tuple #[.pointer ((bs.find? fun b => nm b == n).map fun b => ⟨b, 0, none⟩), .bool (bs.find? fun b => nm b == n).isSome]) /\ w' = w := by
 have HR := hide h; have HC := hide hc; obtain ⟨a, c, rfl, _⟩ := h.len; clear h hc; obtain ⟨m, hm⟩ : ∃ q, q = bs.length := ⟨_, rfl⟩; have HN := hide hm; rw [<- hm] at HR hn ⊢; clear hm; go_enter Tryz.func44, Tryz.ntmps44; go_wp2_with fail
 go_loop [10] (fun i => ∃ k : Nat, k <= m /\ i = .int .i64 k /\ Hid ((bs.take k).any (fun b => nm b == n) = false)) (fun i => m - (intOf i).toNat)
 case atStart => exact ⟨0, Nat.zero_le _, rfl, hide (by simp)⟩
 case round =>
  obtain ⟨k, hk, rfl, HNo⟩ := hrel; by_cases hlt : k < m
  · obtain ⟨x, hx⟩ : ∃ x, bs[k]? = some x := ⟨bs[k]'(by rw [<- HN.out]; exact hlt), List.getElem?_eq_getElem _⟩
    obtain ⟨g, o, rfl, ys, wf, hc⟩ := Ow.row_at' HR.out hx; have hwf : ys = [.pointer (some ⟨x, 0, none⟩)] := wf; subst hwf; have r0 := hc w (Below.refl _ _) 0 _ rfl; rw [Nat.add_zero, Nat.mul_one] at r0; have c0 := HC.out x (List.mem_of_getElem? hx); have hlt' : (k : Int) < (m : Int) := by omega
    by_cases hb : nm x = n
    · have HF : Hid (bs.find? (fun b => nm b == n) = some x) := hide (Ly.find_take HNo.out hx (by simp [hb]))
      rw [hb] at c0; clear hx hb hc wf HNo; go_wp2_with fail; go_ret2; rw [HF.out]; exact ⟨rfl, rfl⟩
    · have hne : (nm x == n) = false := by simp [hb]
      have HNo2 := hide (Ly.any_take HNo.out hx hne); clear hx hb hc wf HNo; generalize nm x = y0 at *
      go_wp2_with fail
      go_round
      case rel => exact ⟨k + 1, by omega, by go_num, HNo2⟩
      case measure => simp [intOf]; omega
  · have HF : Hid (bs.find? (fun b => nm b == n) = none) := hide (Ly.find_end HNo.out (by rw [<- HN.out]; omega))
    have hnl : ¬ ((k : Int) < (m : Int)) := by omega
    clear HNo; go_wp2_with fail; go_ret2; rw [HF.out]; exact ⟨rfl, rfl⟩
theorem isVoid_any (t : Pp.Ty) (ys : List Value) (w : World) (h : TyX t ys) :
 Calls Tryz.prog 119 #[.agg ys.toArray] w fun e w' => e = .returned (.bool (t.kind == 1)) /\ Below w.heap.size w w' := by
 obtain ⟨rfl, _⟩ := h; simp only [tyL]; have HB := hide ((Below.refl w.heap.size w).alloc (Nat.le_refl _) (.cells #[.int .i64 t.kind, .string ⟨t.name.toArray⟩] 35)); go_enter Tryz.func119, Tryz.ntmps119; go_wp2_with fail; go_ret; exact ⟨rfl, HB.out⟩
theorem anyVoid_any (l : List Pp.Ty) (v : Value) (w : World) (h : RowX w 2 TyX v l) (hn : l.length <= 1000) :
 Calls Tryz.prog 120 #[v, .func (.func 119) #[] #[]] w fun e w' => e = .returned (.bool (l.any fun t => t.kind == 1)) /\ Below w.heap.size w w' :=
 cfTy_any l v (fun t => t.kind == 1) w h (by omega) fun x ys _ hp wx _ => isVoid_any x ys wx hp
theorem hs1_any (s : Pp.Slt) (ys : List Value) (c : Addr) (n : Pp.Bs) (w : World) (h : SltX s ys) (hc : w.cell? c = some (.string ⟨n.toArray⟩)) (hl : c.block < w.heap.size) :
 Calls Tryz.prog 127 #[.agg ys.toArray, .pointer (some c)] w fun e w' => e = .returned (.bool (s.name == n)) /\ Below w.heap.size w w' := by
 have hys : ys = [.string ⟨s.owner.toArray⟩, .string ⟨s.name.toArray⟩, .int .i64 s.ty.kind, .string ⟨s.ty.name.toArray⟩] := h; subst hys; have hb0 := (Below.refl w.heap.size w).alloc (Nat.le_refl _) (.cells #[.string ⟨s.owner.toArray⟩, .string ⟨s.name.toArray⟩, .int .i64 s.ty.kind, .string ⟨s.ty.name.toArray⟩] 64); have HB := hide hb0; have c0 := (hb0.cell hl).trans hc; clear hc hb0 h; go_enter Tryz.func127, Tryz.ntmps127; go_wp2_with fail; go_ret; exact ⟨rfl, HB.out⟩
namespace Hr
open Pp
def objN : Bs := [79, 98, 106, 101, 99, 116]
def errN : Bs := [69, 114, 114, 111, 114]
def subs : List Bs := [[78, 117, 108, 108, 69, 114, 114, 111, 114], [82, 97, 110, 103, 101, 69, 114, 114, 111, 114], [67, 97, 115, 116, 69, 114, 114, 111, 114], [78, 117, 109, 69, 114, 114, 111, 114], [83, 105, 122, 101, 69, 114, 114, 111, 114], [68, 101, 112, 116, 104, 69, 114, 114, 111, 114]]
def plain (n s : Bs) : XCls := ⟨n, false, s, [], [], []⟩
def base : List XCls := plain objN [] :: plain errN objN :: subs.map (plain · errN)
def allL (cs : List XCls) : List XCls := base ++ cs
def placeL : List XCls -> Bs -> Option Nat
 | [], _ => none
 | c :: l, n => if c.name = n then some 0 else (placeL l n).map (· + 1)
def pairP : Option Nat -> Nat × Bool
 | none => (0, false)
 | some k => (k, true)
theorem placeL_lt {l : List XCls} {n : Bs} {k : Nat} (h : placeL l n = some k) : ∃ c, l[k]? = some c /\ c.name = n /\ ∀ (j : Nat) (d : XCls), j < k -> l[j]? = some d -> d.name ≠ n := by
 induction l generalizing k with
 | nil => simp [placeL] at h
 | cons a l ih =>
   unfold placeL at h
   split at h
   · cases h
     exact ⟨a, rfl, by assumption, fun j d hj => absurd hj (Nat.not_lt_zero _)⟩
   · rename_i hne
     cases hp : placeL l n with
     | none => rw [hp] at h; cases h
     | some m =>
       rw [hp] at h; cases h; obtain ⟨c, h1, h2, h3⟩ := ih hp; refine ⟨c, by simpa using h1, h2, fun j d hj hd => ?_⟩
       cases j with
       | zero => simp at hd; subst hd; exact hne
       | succ j => exact h3 j d (by have : j + 1 < m + 1 := hj; omega) (by simpa using hd)
theorem placeL_none {l : List XCls} {n : Bs} : placeL l n = none ↔ ∀ (j : Nat) (d : XCls), l[j]? = some d -> d.name ≠ n := by
 induction l with
 | nil => simp [placeL]
 | cons a l ih =>
   unfold placeL
   split
   · rename_i h
     constructor
     · intro h'; cases h'
     · intro h'; exact absurd h (h' 0 a rfl)
   · rename_i h
     constructor
     · intro h' j d hd
       cases j with
       | zero => simp at hd; subst hd; exact h
       | succ j =>
         refine ih.1 ?_ j d (by simpa using hd)
         cases hp : placeL l n with
         | none => rfl
         | some m => rw [hp] at h'; cases h'
     · intro h'
       rw [ih.2 fun j d hd => h' (j + 1) d (by simpa using hd)]
       rfl
theorem placeL_at {l : List XCls} {n : Bs} {k : Nat} {c : XCls} (h : l[k]? = some c) (hc : c.name = n) (hf : ∀ (j : Nat) (d : XCls), j < k -> l[j]? = some d -> d.name ≠ n) : placeL l n = some k := by
 cases hp : placeL l n with
 | none => exact absurd hc (placeL_none.1 hp k c h)
 | some m =>
   obtain ⟨d, h1, h2, h3⟩ := placeL_lt hp
   rcases Nat.lt_trichotomy m k with hm | hm | hm
   · exact absurd h2 (hf m d hm h1)
   · rw [hm]
   · exact absurd hc (h3 k c hm h)
def oneL (l : List XCls) : Prop := ∀ (j : Nat) (c : XCls), l[j]? = some c -> placeL l c.name = some j
def oneB (l : List XCls) : Bool := (List.range l.length).all fun j => match l[j]? with | none => true | some c => placeL l c.name == some j
theorem oneB_iff (l : List XCls) : oneB l = true ↔ oneL l := by
 unfold oneB oneL; simp only [List.all_eq_true, List.mem_range]; constructor
 · intro h j c hc
   have := h j (by rw [List.getElem?_eq_some_iff] at hc; exact hc.1)
   rw [hc] at this
   simpa using this
 · intro h j hj
   have hc := List.getElem?_eq_getElem hj; rw [hc]
   simpa using h j _ hc
def superL (c : XCls) : Option Bs := if c.iface = true \/ c.name = objN then none else if c.super = [] then some objN else some c.super
def pairS : Option Bs -> Bs × Bool
 | none => ([], false)
 | some s => (s, true)
def upL (l : List XCls) (want : Bool) (n : Bs) : Option Nat := match placeL l n with
 | none => none
 | some k => match l[k]? with
   | none => none
   | some c => if c.iface = want then some k else none
def supL (l : List XCls) (c : XCls) : Option (List Nat) := match superL c with
 | none => some []
 | some n => (upL l false n).map fun k => [k]
def ifsL (l : List XCls) : List Bs -> Option (List Nat)
 | [] => some []
 | n :: ns => match upL l true n with
   | none => none
   | some k => (ifsL l ns).map fun r => k :: r
def upsL (l : List XCls) (c : XCls) : Option (List Nat) := match supL l c with
 | none => none
 | some a => (ifsL l c.ifaces).map fun b => a ++ b
def growL (l : List XCls) : List XCls -> Option (List (List Nat))
 | [] => some []
 | c :: cs => match upsL l c with
   | none => none
   | some u => (growL l cs).map fun r => u :: r
theorem ifsL_step {l : List XCls} {ns : List Bs} {k : Nat} {n : Bs} (h : ns[k]? = some n) : ifsL l (ns.take (k + 1)) = match ifsL l (ns.take k), upL l true n with | some r, some u => some (r ++ [u]) | _, _ => none := by
 induction ns generalizing k with
 | nil => simp at h
 | cons a ns ih =>
   cases k with
   | zero =>
     simp at h; subst h; simp only [Nat.zero_add, List.take_succ_cons, List.take_zero, ifsL]; cases upL l true a <;> rfl
   | succ k =>
     have := ih (k := k) (by simpa using h)
     rw [List.take_succ_cons, List.take_succ_cons]; simp only [ifsL]; rw [this]; cases upL l true a with
     | none => rfl
     | some u =>
       cases ifsL l (ns.take k) with
       | none => rfl
       | some r => cases upL l true n <;> rfl
theorem ifsL_take {l : List XCls} {ns : List Bs} {k : Nat} (h : ifsL l (ns.take k) = none) : ifsL l ns = none := by
 induction ns generalizing k with
 | nil => simp [ifsL] at h
 | cons a ns ih =>
   cases k with
   | zero => simp [ifsL] at h
   | succ k =>
     rw [List.take_succ_cons] at h; simp only [ifsL] at h ⊢; cases hu : upL l true a with
     | none => rfl
     | some u =>
       rw [hu] at h; cases hr : ifsL l (ns.take k) with
       | none => rw [ih hr]; rfl
       | some r => simp [hr] at h
theorem growL_step {l cs : List XCls} {k : Nat} {c : XCls} (h : cs[k]? = some c) : growL l (cs.take (k + 1)) = match growL l (cs.take k), upsL l c with | some r, some u => some (r ++ [u]) | _, _ => none := by
 induction cs generalizing k with
 | nil => simp at h
 | cons a cs ih =>
   cases k with
   | zero =>
     simp at h; subst h; simp only [Nat.zero_add, List.take_succ_cons, List.take_zero, growL]; cases upsL l a <;> rfl
   | succ k =>
     have := ih (k := k) (by simpa using h)
     rw [List.take_succ_cons, List.take_succ_cons]; simp only [growL]; rw [this]; cases upsL l a with
     | none => rfl
     | some u =>
       cases growL l (cs.take k) with
       | none => rfl
       | some r => cases upsL l c <;> rfl
theorem growL_take {l cs : List XCls} {k : Nat} (h : growL l (cs.take k) = none) : growL l cs = none := by
 induction cs generalizing k with
 | nil => simp [growL] at h
 | cons a cs ih =>
   cases k with
   | zero => simp [growL] at h
   | succ k =>
     rw [List.take_succ_cons] at h; simp only [growL] at h ⊢; cases hu : upsL l a with
     | none => rfl
     | some u =>
       rw [hu] at h; cases hr : growL l (cs.take k) with
       | none => rw [ih hr]; rfl
       | some r => simp [hr] at h
theorem growL_len {l cs : List XCls} {r : List (List Nat)} (h : growL l cs = some r) : r.length = cs.length := by
 induction cs generalizing r with
 | nil => simp [growL] at h; subst h; rfl
 | cons a cs ih =>
   simp only [growL] at h; cases hu : upsL l a with
   | none => rw [hu] at h; cases h
   | some u =>
     rw [hu] at h; cases hr : growL l cs with
     | none => rw [hr] at h; cases h
     | some s => rw [hr] at h; cases h; simp [ih hr]
theorem growL_at {l cs : List XCls} {r : List (List Nat)} (h : growL l cs = some r) {k : Nat} {c : XCls} (hc : cs[k]? = some c) : ∃ u, r[k]? = some u /\ upsL l c = some u := by
 induction cs generalizing r k with
 | nil => simp at hc
 | cons a cs ih =>
   simp only [growL] at h; cases hu : upsL l a with
   | none => rw [hu] at h; cases h
   | some u =>
     rw [hu] at h; cases hr : growL l cs with
     | none => rw [hr] at h; cases h
     | some s =>
       rw [hr] at h; cases h; cases k with
       | zero => simp at hc; subst hc; exact ⟨u, rfl, hu⟩
       | succ k => obtain ⟨v, h1, h2⟩ := ih hr (k := k) (by simpa using hc); exact ⟨v, by simpa using h1, h2⟩
theorem upL_lt {l : List XCls} {b : Bool} {n : Bs} {k : Nat} (h : upL l b n = some k) : k < l.length /\ placeL l n = some k /\ ∃ c, l[k]? = some c /\ c.iface = b := by
 unfold upL at h; cases hp : placeL l n with
 | none => rw [hp] at h; cases h
 | some m =>
   rw [hp] at h; obtain ⟨c, h1, h2, h3⟩ := placeL_lt hp; simp only [h1] at h
   split at h
   · cases h; exact ⟨(List.getElem?_eq_some_iff.1 h1).1, rfl, c, h1, by assumption⟩
   · cases h
theorem ifsL_lt {l : List XCls} {ns : List Bs} {r : List Nat} (h : ifsL l ns = some r) : ∀ k ∈ r, k < l.length := by
 induction ns generalizing r with
 | nil => simp [ifsL] at h; subst h; simp
 | cons a ns ih =>
   simp only [ifsL] at h; cases hu : upL l true a with
   | none => rw [hu] at h; cases h
   | some u =>
     rw [hu] at h; cases hr : ifsL l ns with
     | none => rw [hr] at h; cases h
     | some s =>
       rw [hr] at h; cases h; intro k hk
       rcases List.mem_cons.1 hk with rfl | hk
       · exact (upL_lt hu).1
       · exact ih hr k hk
theorem upsL_lt {l : List XCls} {c : XCls} {r : List Nat} (h : upsL l c = some r) : ∀ k ∈ r, k < l.length := by
 unfold upsL at h; cases hs : supL l c with
 | none => rw [hs] at h; cases h
 | some a =>
   rw [hs] at h; cases hi : ifsL l c.ifaces with
   | none => rw [hi] at h; cases h
   | some b =>
     rw [hi] at h; cases h; intro k hk
     rcases List.mem_append.1 hk with hk | hk
     · unfold supL at hs
       cases hsu : superL c with
       | none => rw [hsu] at hs; cases hs; simp at hk
       | some n =>
         rw [hsu] at hs; cases hu : upL l false n with
         | none => simp only [hu] at hs; cases hs
         | some u => simp only [hu] at hs; cases hs; simp at hk; subst hk; exact (upL_lt hu).1
     · exact ifsL_lt hi k hk
theorem growL_lt {l cs : List XCls} {r : List (List Nat)} (h : growL l cs = some r) : ∀ u ∈ r, ∀ k ∈ u, k < l.length := by
 induction cs generalizing r with
 | nil => simp [growL] at h; subst h; simp
 | cons a cs ih =>
   simp only [growL] at h; cases hu : upsL l a with
   | none => rw [hu] at h; cases h
   | some u =>
     rw [hu] at h; cases hr : growL l cs with
     | none => rw [hr] at h; cases h
     | some s =>
       rw [hr] at h; cases h; intro v hv
       rcases List.mem_cons.1 hv with rfl | hv
       · exact upsL_lt hu
       · exact ih hr v hv
def Step (up : List (List Nat)) (i j : Nat) : Prop := ∃ u, up[i]? = some u /\ j ∈ u
def FarN (up : List (List Nat)) : Nat -> Nat -> Nat -> Prop
 | 0, i, j => Step up i j
 | n + 1, i, k => ∃ j, FarN up n i j /\ Step up j k
def Far (up : List (List Nat)) (i j : Nat) : Prop := ∃ n, FarN up n i j
theorem Far.one {up : List (List Nat)} {i j : Nat} (h : Step up i j) : Far up i j := ⟨0, h⟩
theorem Far.more {up : List (List Nat)} {i j k : Nat} (h : Far up i j) (s : Step up j k) : Far up i k := by
 obtain ⟨n, h⟩ := h; exact ⟨n + 1, j, h, s⟩
theorem Far.ind {up : List (List Nat)} {C : Nat -> Nat -> Prop} (one : ∀ {i j : Nat}, Step up i j -> C i j) (more : ∀ {i j k : Nat}, Far up i j -> Step up j k -> C i j -> C i k) {i j : Nat} (h : Far up i j) : C i j := by
 obtain ⟨n, h⟩ := h
 induction n generalizing j with
 | zero => exact one h
 | succ n ih => obtain ⟨m, h1, h2⟩ := h; exact more ⟨n, h1⟩ h2 (ih h1)
theorem Far.trans {up : List (List Nat)} {i j k : Nat} (h : Far up i j) (h' : Far up j k) : Far up i k := by
 revert h; refine Far.ind (C := fun j k => Far up i j -> Far up i k) (fun s h => .more h s) (fun _ s ih h => .more (ih h) s) h'
def Ring (up : List (List Nat)) : Prop := ∃ i, Far up i i
end Hr
namespace Hr
theorem row_at {α : Type} {W : World} {sz : Nat} {P : α -> List Value -> Prop} {a : Option Addr} {n c : Nat} {l : List α} (h : RowX W sz P (.slice a n c) l) {k : Nat} {x : α} (hx : l[k]? = some x) : ∃ b o, a = some ⟨b, o, none⟩ /\ ∃ ys, P x ys /\ ∀ wx, Below W.heap.size W wx -> ∀ (j : Nat) (u : Value), ys[j]? = some u -> wx.cell? ⟨b, o + k * sz + j, none⟩ = some u := by
 obtain ⟨a', c', e, hc, h⟩ := h; injection e with e1 e2 e3; subst e1
 rcases h with rfl | ⟨b, o, rfl, hlt, hr⟩
 · simp at hx
 · obtain ⟨ys, h1, h2⟩ := hr k x hx
   exact ⟨b, o, rfl, ys, h1, fun wx hb j u hj => (hb.cell (by exact hlt)).trans (h2 j u hj)⟩
end Hr
theorem superOf_any (c : Pp.XCls) (ys : List Value) (w : World) (h : ClsX w c ys) :
 Calls Tryz.prog 54 #[.agg ys.toArray] w fun e w' => e = .returned (.tuple #[.string ⟨(Hr.pairS (Hr.superL c)).1.toArray⟩, .bool (Hr.pairS (Hr.superL c)).2]) /\ Below w.heap.size w w' := by
 obtain ⟨vp, vc, vk, rfl, p1, i1, k1, z1⟩ := h; clear p1 i1 k1; simp only [clsXL, List.toArray]; by_cases hi : c.iface = true
 · have hr : Hid (Hr.superL c = none) := hide (by simp [Hr.superL, hi])
   rw [hi]; generalize (⟨c.name.toArray⟩ : ByteArray) = y0; generalize (⟨c.super.toArray⟩ : ByteArray) = y2; rw [hr.out]; go_enter Tryz.func54, Tryz.ntmps54; go_wp2; go_ret2; exact ⟨rfl, (Below.refl _ _).alloc (Nat.le_refl _) _⟩
 · have hi' : c.iface = false := by simpa using hi
   by_cases hn : c.name = Hr.objN
   · have hr : Hid (Hr.superL c = none) := hide (by simp [Hr.superL, hn])
     rw [hi', hn, hr.out]; generalize (⟨c.super.toArray⟩ : ByteArray) = y2; go_enter Tryz.func54, Tryz.ntmps54; go_wp2; go_ret2; exact ⟨rfl, (Below.refl _ _).alloc (Nat.le_refl _) _⟩
   · have hne : (c.name == Hr.objN) = false := by simp [hn]
     simp only [Hr.objN] at hne; by_cases hs : c.super = []
     · have hr : Hid (Hr.superL c = some Hr.objN) := hide (by simp [Hr.superL, hn, hi', hs])
       rw [hi', hs, hr.out]; generalize c.name = y0 at *
       go_enter Tryz.func54, Tryz.ntmps54; go_wp2; go_ret2; exact ⟨rfl, (Below.refl _ _).alloc (Nat.le_refl _) _⟩
     · have hse : (c.super == []) = false := by simp [hs]
       have hr : Hid (Hr.superL c = some c.super) := hide (by simp [Hr.superL, hn, hi', hs])
       rw [hi', hr.out]; simp only [Hr.pairS]; clear hr hs hn; generalize c.name = y0 at *
       generalize c.super = y2 at *
       go_enter Tryz.func54, Tryz.ntmps54; go_wp2; go_ret2; exact ⟨rfl, (Below.refl _ _).alloc (Nat.le_refl _) _⟩
theorem place_any (l : List Pp.XCls) (v : Value) (n : Pp.Bs) (w : World) (h : RowX w 6 (ClsX w) v l) (hlen : l.length <= maxLen) :
 Calls Tryz.prog 55 #[v, .string ⟨n.toArray⟩] w fun e w' => e = .returned (.tuple #[.int .i64 (Hr.pairP (Hr.placeL l n)).1, .bool (Hr.pairP (Hr.placeL l n)).2]) /\ Below w.heap.size w w' := by
 obtain ⟨pa, pc, rfl, _⟩ := h.len; have H := hide h; obtain ⟨m, hm⟩ : ∃ m, m = l.length := ⟨_, rfl⟩; have HM := hide hm; rw [<- hm] at H hlen ⊢; clear h hm; have hmx : (m : Int) <= 9223372036854775807 := by unfold maxLen at hlen; omega
 go_enter Tryz.func55, Tryz.ntmps55; go_wp2_with fail
 go_loopw [10] (fun i wr => ∃ k : Nat, k <= m /\ i = .int .i64 k /\ Below w.heap.size w wr /\ Hid (∀ (j : Nat) (d : Pp.XCls), j < k -> l[j]? = some d -> d.name ≠ n)) (fun i _ => m - (intOf i).toNat)
 case atStart => exact ⟨0, by omega, rfl, Below.refl _ _, hide fun j d hj => absurd hj (Nat.not_lt_zero _)⟩
 case round =>
  obtain ⟨k, hk, rfl, hbw, hp⟩ := hrel; by_cases hlt : k < m
  · obtain ⟨x, hx⟩ : ∃ x, l[k]? = some x := ⟨l[k]'(by rw [<- HM.out]; exact hlt), List.getElem?_eq_getElem _⟩
    obtain ⟨g1, o1, rfl, ys1, w1', hc1⟩ := Hr.row_at H.out hx; have hG := hide (hc1 wr hbw); clear hc1; obtain ⟨vp, vc, vk, rfl, x1, x2, x3, _⟩ := w1'; obtain ⟨va1, vd1, rfl, _⟩ := x1.len; obtain ⟨va2, vd2, rfl, _⟩ := x2.len; obtain ⟨va3, vd3, rfl, _⟩ := x3.len; clear x1 x2 x3; have r0 := hG.out 0 _ rfl; have r1 := hG.out 1 _ rfl; have r2 := hG.out 2 _ rfl; have r3 := hG.out 3 _ rfl; have r4 := hG.out 4 _ rfl; have r5 := hG.out 5 _ rfl; rw [Nat.add_zero] at r0; clear hG; have hlt' : (k : Int) < (m : Int) := by omega
    generalize x.iface = y1 at *
    generalize (⟨x.super.toArray⟩ : ByteArray) = y2 at *
    generalize x.ifaces.length = n1 at *
    generalize x.fields.length = n2 at *
    generalize x.methods.length = n3 at *
    by_cases hn : x.name = n
    · have hr := hide (Hr.placeL_at hx hn hp.out)
      rw [hn] at r0; clear hx hn; go_wp2; go_ret2; rw [hr.out]; exact ⟨rfl, hbw.alloc hbw.size _⟩
    · have hne : (x.name == n) = false := by simp [hn]
      have hr : Hid (∀ (j : Nat) (d : Pp.XCls), j < k + 1 -> l[j]? = some d -> d.name ≠ n) := hide fun j d hj hd => by
       rcases Nat.lt_or_eq_of_le (Nat.le_of_lt_succ hj) with h | rfl
       · exact hp.out j d h hd
       · rw [hx] at hd; cases hd; exact hn
      clear hx hn hp; generalize x.name = y0 at *
      go_wp2
      go_roundw
      case rel => exact ⟨k + 1, by omega, by go_num, hbw.alloc hbw.size _, hr⟩
      case measure => simp [intOf]; omega
  · have hr : Hid (Hr.placeL l n = none) := hide (Hr.placeL_none.2 fun j d hd => hp.out j d (by have := (List.getElem?_eq_some_iff.1 hd).1; have := HM.out; omega) hd)
    go_wp2; go_ret2; rw [hr.out]; exact ⟨rfl, hbw⟩
theorem twice_any (l : List Pp.XCls) (v : Value) (w : World) (h : RowX w 6 (ClsX w) v l) (hlen : l.length <= maxLen) :
 Calls Tryz.prog 95 #[v] w fun e w' => e = .returned (.bool (!Hr.oneB l)) /\ Below w.heap.size w w' := by
 have HP := hide (fun (n : Pp.Bs) wx (hb : Below w.heap.size w wx) => place_any l v n wx (h.on hb fun _ _ h => h.on hb) hlen); obtain ⟨pa, pc, rfl, _⟩ := h.len; have H := hide h; obtain ⟨m, hm⟩ : ∃ m, m = l.length := ⟨_, rfl⟩; have HM := hide hm; rw [<- hm] at H hlen HP ⊢; clear h hm; have hmx : (m : Int) <= 9223372036854775807 := by unfold maxLen at hlen; omega
 go_enter Tryz.func95, Tryz.ntmps95; go_wp2_with fail
 go_loopw [9] (fun i wr => ∃ k : Nat, k <= m /\ i = .int .i64 k /\ Below w.heap.size w wr /\ Hid (∀ (j : Nat) (d : Pp.XCls), j < k -> l[j]? = some d -> Hr.placeL l d.name = some j)) (fun i _ => m - (intOf i).toNat)
 case atStart => exact ⟨0, by omega, rfl, Below.refl _ _, hide fun j d hj => absurd hj (Nat.not_lt_zero _)⟩
 case round =>
  obtain ⟨k, hk, rfl, hbw, hp⟩ := hrel; by_cases hlt : k < m
  · obtain ⟨x, hx⟩ : ∃ x, l[k]? = some x := ⟨l[k]'(by rw [<- HM.out]; exact hlt), List.getElem?_eq_getElem _⟩
    obtain ⟨g1, o1, rfl, ys1, w1', hc1⟩ := Hr.row_at H.out hx; have hG := hide (hc1 wr hbw); clear hc1; obtain ⟨vp, vc, vk, rfl, x1, x2, x3, _⟩ := w1'; obtain ⟨va1, vd1, rfl, _⟩ := x1.len; obtain ⟨va2, vd2, rfl, _⟩ := x2.len; obtain ⟨va3, vd3, rfl, _⟩ := x3.len; clear x1 x2 x3; have r0 := hG.out 0 _ rfl; have r1 := hG.out 1 _ rfl; have r2 := hG.out 2 _ rfl; have r3 := hG.out 3 _ rfl; have r4 := hG.out 4 _ rfl; have r5 := hG.out 5 _ rfl; rw [Nat.add_zero] at r0; clear hG; have hlt' : (k : Int) < (m : Int) := by omega
    have HC := hide (fun wx (hb : Below w.heap.size w wx) => HP.out x.name wx hb)
    have hst : Hid (Hr.placeL l x.name = some k -> ∀ (j : Nat) (d : Pp.XCls), j < k + 1 -> l[j]? = some d -> Hr.placeL l d.name = some j) := hide fun he j d hj hd => by
     rcases Nat.lt_or_eq_of_le (Nat.le_of_lt_succ hj) with h | rfl
     · exact hp.out j d h hd
     · rw [hx] at hd; cases hd; exact he
    have hpl : ∃ q c, Hr.placeL l x.name = some q /\ l[q]? = some c /\ q <= k := by
     cases hq : Hr.placeL l x.name with
     | none => exact absurd rfl (Hr.placeL_none.1 hq k x hx)
     | some q =>
       obtain ⟨c, h1, h2, h3⟩ := Hr.placeL_lt hq; refine ⟨q, c, rfl, h1, ?_⟩
       rcases Nat.lt_or_ge k q with h | h
       · exact absurd rfl (h3 k x h hx)
       · exact h
    obtain ⟨q, cq, hq, _, hqk⟩ := hpl
    have hno : Hid (q ≠ k -> Hr.oneB l = false) := hide fun hne => by
     cases hb : Hr.oneB l with
     | false => rfl
     | true =>
       have := (Hr.oneB_iff l).1 hb k x hx; rw [hq] at this; cases this; exact absurd rfl hne
    rw [hq] at hst
    have HQ : Hid (∀ wx, Below w.heap.size w wx -> Calls Tryz.prog 55 #[.slice (some ⟨g1, o1, none⟩) m pc, .string ⟨x.name.toArray⟩] wx fun e w' => e = .returned (.tuple #[.int .i64 q, .bool true]) /\ Below wx.heap.size wx w') := hide fun wx hb => by
     have := HC.out wx hb; rw [hq] at this; exact this
    clear HC hq hx; generalize (⟨x.name.toArray⟩ : ByteArray) = y0 at *
    generalize x.iface = y1 at *
    generalize (⟨x.super.toArray⟩ : ByteArray) = y2 at *
    generalize x.ifaces.length = n1 at *
    generalize x.fields.length = n2 at *
    generalize x.methods.length = n3 at *
    have HB := hide hbw; by_cases hne : q = k
    · have hr := hst.out (by rw [hne])
      subst hne; clear hst hno; go_wp2_with fail; refine (HQ.out _ (HB.out.alloc HB.out.size _)).mono ?_; rintro e wq ⟨rfl, hbq⟩; have HW := hide ((HB.out.alloc HB.out.size (.cells #[.string y0, .bool y1, .string y2, .slice va1 n1 vd1, .slice va2 n2 vd2, .slice va3 n3 vd3] 59)).trans (hbq.mono (HB.out.alloc HB.out.size _).size)); clear HQ hbq HB hbw; go_wp2_with fail
      go_roundw
      case rel => exact ⟨q + 1, by omega, by go_num, HW.out, hide hr⟩
      case measure => simp [intOf]; omega
    · have hr := hide (hno.out hne)
      have hne' : (q : Int) ≠ (k : Int) := by omega
      clear hst hno; go_wp2_with fail; refine (HQ.out _ (HB.out.alloc HB.out.size _)).mono ?_; rintro e wq ⟨rfl, hbq⟩; have HW := hide ((HB.out.alloc HB.out.size (.cells #[.string y0, .bool y1, .string y2, .slice va1 n1 vd1, .slice va2 n2 vd2, .slice va3 n3 vd3] 59)).trans (hbq.mono (HB.out.alloc HB.out.size _).size)); clear HQ hbq HB hbw; go_wp2_with fail; go_ret; rw [hr.out]; exact ⟨rfl, HW.out⟩
  · have hr : Hid (Hr.oneB l = true) := hide ((Hr.oneB_iff l).2 fun j d hd => hp.out j d (by have := (List.getElem?_eq_some_iff.1 hd).1; have := HM.out; omega) hd)
    go_wp2; go_ret; rw [hr.out]; exact ⟨rfl, hbw⟩
namespace Ow
theorem info_of {P : Program} {t : TypeId} {s z b : Nat} (h : (P.info? t).map (fun i => (i.zero.map (fun z => z.cells.size), i.size, i.bytes)) = some (some z, s, b)) : ∃ i, P.info? t = some i /\ i.zero.map (fun z => z.cells.size) = some z /\ i.size = s /\ i.bytes = b := by
 cases hi : P.info? t with
 | none => rw [hi] at h; cases h
 | some i => rw [hi] at h; simp only [Option.map_some, Option.some.injEq, Prod.mk.injEq] at h; exact ⟨i, rfl, h.1, h.2.1, h.2.2⟩
theorem i_str : (Tryz.prog.info? 9).map (fun i => (i.zero.map (fun z => z.cells.size), i.size, i.bytes)) = some (some 1, 1, 16) := by kernel_rfl
theorem i_ty : (Tryz.prog.info? 35).map (fun i => (i.zero.map (fun z => z.cells.size), i.size, i.bytes)) = some (some 2, 2, 24) := by kernel_rfl
theorem i_fld : (Tryz.prog.info? 72).map (fun i => (i.zero.map (fun z => z.cells.size), i.size, i.bytes)) = some (some 4, 4, 48) := by kernel_rfl
theorem i_ins : (Tryz.prog.info? 75).map (fun i => (i.zero.map (fun z => z.cells.size), i.size, i.bytes)) = some (some 4, 4, 48) := by kernel_rfl
theorem i_ctc : (Tryz.prog.info? 77).map (fun i => (i.zero.map (fun z => z.cells.size), i.size, i.bytes)) = some (some 4, 4, 40) := by kernel_rfl
theorem i_mth : (Tryz.prog.info? 39).map (fun i => (i.zero.map (fun z => z.cells.size), i.size, i.bytes)) = some (some 9, 9, 128) := by kernel_rfl
theorem i_cls : (Tryz.prog.info? 59).map (fun i => (i.zero.map (fun z => z.cells.size), i.size, i.bytes)) = some (some 6, 6, 112) := by kernel_rfl
theorem fz_blk {w : World} {b : Nat} {c : Array Value} {t : TypeId} (h : w.heap[b]? = some (.cells c t (0, 0))) (k : Nat) : w.frozen? ⟨b, k, none⟩ = false := by simp [World.frozen?, h]
def Ty (w : World) (b : Nat) (t : TypeId) : Prop := ∃ c f, w.heap[b]? = some (.cells c t f)
theorem Ty.set {w : World} {b : Nat} {t : TypeId} (h : Ty w b t) (g k : Nat) (u : Value) : Ty (w.setCell ⟨g, k, none⟩ u) b t := by
 obtain ⟨c, f, h⟩ := h; by_cases e : g = b
 · subst e
   have hlt := lt_of_blk h; have h' : w.heap[g] = .cells c t f := by simpa [Array.getElem?_eq_getElem hlt] using h
   refine ⟨c.setIfInBounds k u, f, ?_⟩; show (w.heap.modify g _)[g]? = _; rw [Array.getElem?_eq_getElem (by simpa using hlt), Array.getElem_modify_self, h']
   rfl
 · exact ⟨c, f, by rw [Below.heap_setCell _ _ _ _ (fun h2 => e h2.symm)]; exact h⟩
theorem Kx.set {w : World} {b : Nat} {t : TypeId} (h : Ty w b t) (k : Nat) (u : Value) : Kx t w (w.setCell ⟨b, k, none⟩ u) := by
 obtain ⟨c, f, h⟩ := h
 exact ⟨by simp, fun i x e g hi h1 => by
  rw [Below.heap_setCell _ _ _ _ (fun e2 => by subst e2; rw [h] at hi; simp at hi; exact h1 hi.2.1.symm)]; exact hi⟩
theorem sets12 {w : World} {n : Nat} {t : TypeId} {v3 v7 v8 u0 u1 u2 u3 u4 u5 u6 u7 u8 : Value} (h0 : Ty w n t) (h1 : Ty w (n + 1) t) :
 Kx t w ((((((((((((w.setCell ⟨n, 3, none⟩ v3).setCell ⟨n, 7, none⟩ v7).setCell ⟨n, 8, none⟩ v8).setCell ⟨n + 1, 0, none⟩ u0).setCell ⟨n + 1, 1, none⟩ u1).setCell ⟨n + 1, 2, none⟩ u2).setCell ⟨n + 1, 3, none⟩ u3).setCell ⟨n + 1, 4, none⟩ u4).setCell ⟨n + 1, 5, none⟩ u5).setCell ⟨n + 1, 6, none⟩ u6).setCell ⟨n + 1, 7, none⟩ u7).setCell ⟨n + 1, 8, none⟩ u8) /\
 Below n w ((((((((((((w.setCell ⟨n, 3, none⟩ v3).setCell ⟨n, 7, none⟩ v7).setCell ⟨n, 8, none⟩ v8).setCell ⟨n + 1, 0, none⟩ u0).setCell ⟨n + 1, 1, none⟩ u1).setCell ⟨n + 1, 2, none⟩ u2).setCell ⟨n + 1, 3, none⟩ u3).setCell ⟨n + 1, 4, none⟩ u4).setCell ⟨n + 1, 5, none⟩ u5).setCell ⟨n + 1, 6, none⟩ u6).setCell ⟨n + 1, 7, none⟩ u7).setCell ⟨n + 1, 8, none⟩ u8) := by
 have key : ∀ (g k : Nat) (u : Value) (x : World), n <= g -> Ty x g t -> (Ty x n t /\ Ty x (n + 1) t /\ Kx t w x /\ Below n w x) -> (Ty (x.setCell ⟨g, k, none⟩ u) n t /\ Ty (x.setCell ⟨g, k, none⟩ u) (n + 1) t /\ Kx t w (x.setCell ⟨g, k, none⟩ u) /\ Below n w (x.setCell ⟨g, k, none⟩ u)) := fun g k u x hg ht h => ⟨h.1.set _ _ _, h.2.1.set _ _ _, h.2.2.1.trans (Kx.set ht k u), h.2.2.2.trans ((Below.refl _ _).setCell hg _)⟩; have a0 : Ty w n t /\ Ty w (n + 1) t /\ Kx t w w /\ Below n w w := ⟨h0, h1, Kx.refl _ _, Below.refl _ _⟩; have a1 := key n 3 v3 _ (Nat.le_refl _) a0.1 a0; have a2 := key n 7 v7 _ (Nat.le_refl _) a1.1 a1; have a3 := key n 8 v8 _ (Nat.le_refl _) a2.1 a2; have a4 := key (n + 1) 0 u0 _ (Nat.le_succ _) a3.2.1 a3; have a5 := key (n + 1) 1 u1 _ (Nat.le_succ _) a4.2.1 a4; have a6 := key (n + 1) 2 u2 _ (Nat.le_succ _) a5.2.1 a5; have a7 := key (n + 1) 3 u3 _ (Nat.le_succ _) a6.2.1 a6; have a8 := key (n + 1) 4 u4 _ (Nat.le_succ _) a7.2.1 a7; have a9 := key (n + 1) 5 u5 _ (Nat.le_succ _) a8.2.1 a8; have b1 := key (n + 1) 6 u6 _ (Nat.le_succ _) a9.2.1 a9; have b2 := key (n + 1) 7 u7 _ (Nat.le_succ _) b1.2.1 b1; have b3 := key (n + 1) 8 u8 _ (Nat.le_succ _) b2.2.1 b2; exact ⟨b3.2.2.1, b3.2.2.2⟩
theorem blk_alloc2a (w : World) (o o' : Obj) : ((w.alloc o).alloc o').heap[w.heap.size]? = some o := by
 exact (heap_alloc_old (w.alloc o) o' (by simp)).trans (heap_alloc_new w o)
theorem blk_alloc2b (w : World) (o o' : Obj) : ((w.alloc o).alloc o').heap[w.heap.size + 1]? = some o' := by
 have := heap_alloc_new (w.alloc o) o'
 simpa using this
theorem bel_alloc2 (w : World) (o o' : Obj) : Below w.heap.size w ((w.alloc o).alloc o') := ((Below.refl w.heap.size w).alloc (Nat.le_refl _) o).alloc (by simp) o'
end Ow
theorem TwinTypes_any (l : List Pp.Ty) (v : Value) (w : World) (h : RowX w 2 TyX v l) (hn : l.length <= 100000) :
 Calls Tryz.prog 82 #[v] w fun e w' => ∃ v', e = .returned v' /\ Ow.OwnX w' w.heap.size 35 2 TyX v' l /\ Below w.heap.size w w' := by
 obtain ⟨i0, hi, hz0, hz1, hz2⟩ := Ow.info_of Ow.i_ty; have HR := hide h; obtain ⟨a, c, rfl, hc⟩ := h.len; clear h; go_enter Tryz.func82, Tryz.ntmps82
 go_wp2_with (at_builtin; refine Ow.wpList_app rfl (.tmp 4) (.tmp 5) 33 rfl Tryz.underlying33 hi hz0 hz1 hz2 (by decide) Ow.shp_ty rfl (Ow.OwnX.nil w w.heap.size 35 2 TyX) rfl HR.out ?c1 (by decide) (Nat.le_refl _) ?_)
 case c1 => simp; omega
 · intro v' w' hown hgrow
   have hB : Below w.heap.size w w' := Ow.bel_grown (Ow.OwnX.nil w w.heap.size 35 2 TyX) (Nat.le_refl _) hgrow; clear hgrow; go_wp2_with fail; go_ret; exact ⟨_, rfl, hown, hB⟩
theorem TwinMethod_any (m : Pp.XMth) (ys : List Value) (w : World) (h : MthX w m ys) (hl : Pp.LtM m) :
 Calls Tryz.prog 57 #[.agg ys.toArray] w fun e w' => ∃ ys', e = .returned (.agg ys'.toArray) /\ Ow.MthO w' w.heap.size m ys' /\ Below w.heap.size w w' := by
 obtain ⟨vp, vc, vk, rfl, p1, i1, k1, z1⟩ := h; obtain ⟨j0, hj, hj0, hj1, hj2⟩ := Ow.info_of Ow.i_ins; obtain ⟨k0, hk, hk0, hk1, hk2⟩ := Ow.info_of Ow.i_ctc; have HZ := hide z1; have HL := hide hl.1; have HT := hide (fun w' (hb : Below w.heap.size w w') => TwinTypes_any m.params vp w' (p1.on hb fun _ _ h => h) (by have := hl.1.2.1; omega))
 have HI := hide (fun w' (hb : Below w.heap.size w w') => i1.on hb fun _ _ h => h); have HK := hide (fun w' (hb : Below w.heap.size w w') => k1.on hb fun _ _ h => h); obtain ⟨pa, pc, rfl, _⟩ := p1.len; obtain ⟨ia, ic, rfl, _⟩ := i1.len; obtain ⟨ka, kc, rfl, _⟩ := k1.len; clear p1 i1 k1 z1 hl; simp only [mthXL, List.toArray]; go_enter Tryz.func57, Tryz.ntmps57; go_wp2_with fail; have hx0 := Ow.blk_alloc2a w (.cells #[.string ⟨m.name.toArray⟩, .bool m.stat, .bool m.abst, .slice pa m.params.length pc, .int .i64 m.ret.kind, .string ⟨m.ret.name.toArray⟩, .int .i64 m.locals, .slice ia m.code.length ic, .slice ka m.catches.length kc] 39) (.cells #[.string ⟨#[]⟩, .bool false, .bool false, .slice none 0 0, .int .i64 0, .string ⟨#[]⟩, .int .i64 0, .slice none 0 0, .slice none 0 0] 39); have hx1 := Ow.blk_alloc2b w (.cells #[.string ⟨m.name.toArray⟩, .bool m.stat, .bool m.abst, .slice pa m.params.length pc, .int .i64 m.ret.kind, .string ⟨m.ret.name.toArray⟩, .int .i64 m.locals, .slice ia m.code.length ic, .slice ka m.catches.length kc] 39) (.cells #[.string ⟨#[]⟩, .bool false, .bool false, .slice none 0 0, .int .i64 0, .string ⟨#[]⟩, .int .i64 0, .slice none 0 0, .slice none 0 0] 39); have HB0 := hide (Ow.bel_alloc2 w (.cells #[.string ⟨m.name.toArray⟩, .bool m.stat, .bool m.abst, .slice pa m.params.length pc, .int .i64 m.ret.kind, .string ⟨m.ret.name.toArray⟩, .int .i64 m.locals, .slice ia m.code.length ic, .slice ka m.catches.length kc] 39) (.cells #[.string ⟨#[]⟩, .bool false, .bool false, .slice none 0 0, .int .i64 0, .string ⟨#[]⟩, .int .i64 0, .slice none 0 0, .slice none 0 0] 39)); have hsz0 : w.heap.size + 1 < ((w.alloc (.cells #[.string ⟨m.name.toArray⟩, .bool m.stat, .bool m.abst, .slice pa m.params.length pc, .int .i64 m.ret.kind, .string ⟨m.ret.name.toArray⟩, .int .i64 m.locals, .slice ia m.code.length ic, .slice ka m.catches.length kc] 39)).alloc (.cells #[.string ⟨#[]⟩, .bool false, .bool false, .slice none 0 0, .int .i64 0, .string ⟨#[]⟩, .int .i64 0, .slice none 0 0, .slice none 0 0] 39)).heap.size := by simp
 generalize ((w.alloc (.cells #[.string ⟨m.name.toArray⟩, .bool m.stat, .bool m.abst, .slice pa m.params.length pc, .int .i64 m.ret.kind, .string ⟨m.ret.name.toArray⟩, .int .i64 m.locals, .slice ia m.code.length ic, .slice ka m.catches.length kc] 39)).alloc (.cells #[.string ⟨#[]⟩, .bool false, .bool false, .slice none 0 0, .int .i64 0, .string ⟨#[]⟩, .int .i64 0, .slice none 0 0, .slice none 0 0] 39)) = w0 at *
 have HC : Hid (∀ wx, Below w0.heap.size w0 wx -> (∀ k, wx.cell? ⟨w.heap.size, k, none⟩ = #[.string ⟨m.name.toArray⟩, .bool m.stat, .bool m.abst, .slice pa m.params.length pc, .int .i64 m.ret.kind, .string ⟨m.ret.name.toArray⟩, .int .i64 m.locals, .slice ia m.code.length ic, .slice ka m.catches.length kc][k]?) /\ (∀ k, wx.frozen? ⟨w.heap.size, k, none⟩ = false) /\ (∀ k, wx.cell? ⟨w.heap.size + 1, k, none⟩ = #[.string ⟨#[]⟩, .bool false, .bool false, .slice none 0 0, .int .i64 0, .string ⟨#[]⟩, .int .i64 0, .slice none 0 0, .slice none 0 0][k]?) /\ (∀ k, wx.frozen? ⟨w.heap.size + 1, k, none⟩ = false)) := hide fun wx hb => by
  have e0 := (hb.block w.heap.size (by omega)).trans hx0
  have e1 := (hb.block (w.heap.size + 1) hsz0).trans hx1; exact ⟨fun k => cell_box e0 k, fun k => Ow.fz_blk e0 k, fun k => cell_box e1 k, fun k => Ow.fz_blk e1 k⟩
 have HD : Hid (Below w0.heap.size w0 w0.drew) := hide (Below.drew (Below.refl _ _)); have HM0 : Hid (∀ wx, Below w0.heap.size w0 wx -> Ow.Ty wx w.heap.size 39) := hide fun wx hb => ⟨_, _, (hb.block w.heap.size (by omega)).trans hx0⟩
 have HM1 : Hid (∀ wx, Below w0.heap.size w0 wx -> Ow.Ty wx (w.heap.size + 1) 39) := hide fun wx hb => ⟨_, _, (hb.block (w.heap.size + 1) hsz0).trans hx1⟩; clear hx0 hx1 hsz0; have c3 : w0.cell? ⟨w.heap.size, 3, none⟩ = some (.slice pa m.params.length pc) := (HC.out w0 (Below.refl _ _)).1 3; have c7 : w0.cell? ⟨w.heap.size, 7, none⟩ = some (.slice ia m.code.length ic) := (HC.out w0 (Below.refl _ _)).1 7; have c8 : w0.cell? ⟨w.heap.size, 8, none⟩ = some (.slice ka m.catches.length kc) := (HC.out w0 (Below.refl _ _)).1 8
 go_region_law (first
  | (refine Ow.step_app rfl (.tmp 8) (.tmp 10) 36 rfl Tryz.underlying36 hj hj0 hj1 hj2 (by decide) Ow.shp_ins (by first | rfl | simp [Act.eval, Act.put]) (Ow.OwnX.nil w5 w5.heap.size 75 4 InsX) (by first | rfl | simp [Act.eval, Act.put]) (HI.out w5 (HB0.out.trans (HB5.out.mono HB0.out.size))) (by have := HL.out.2.2.1; simp; omega) (by decide) (Nat.le_refl _) ?_
     intro v6 w6 ho6 hg6; have HO6 := hide ho6; have H6 := hide (Ow.bel_grown (Ow.OwnX.nil w5 w5.heap.size 75 4 InsX) (Nat.le_refl _) hg6); have HB6 := hide (HB5.out.trans (H6.out.mono HB5.out.size)); obtain ⟨a6, n6, rfl⟩ := ho6.shape; have c68 : w6.cell? ⟨w.heap.size, 8, none⟩ = some (.slice ka m.catches.length kc) := (HC.out w6 HB6.out).1 8
     clear ho6 hg6)
  | (refine Ow.step_app rfl (.tmp 12) (.tmp 14) 37 rfl Tryz.underlying37 hk hk0 hk1 hk2 (by decide) Ow.shp_ctc (by first | rfl | simp [Act.eval, Act.put]) (Ow.OwnX.nil w6 w6.heap.size 77 4 CtcX) (by first | rfl | simp [Act.eval, Act.put]) (HK.out w6 (HB0.out.trans (HB6.out.mono HB0.out.size))) (by have := HL.out.2.2.2.1; simp; omega) (by decide) (Nat.le_refl _) ?_
     intro v7 w7 ho7 hg7; have HO7 := hide ho7; have H7 := hide (Ow.bel_grown (Ow.OwnX.nil w6 w6.heap.size 77 4 CtcX) (Nat.le_refl _) hg7); have HB7 := hide (HB6.out.trans (H7.out.mono HB6.out.size)); obtain ⟨a7, n7, rfl⟩ := ho7.shape; have d3 : w7.cell? ⟨w.heap.size, 3, none⟩ = some (.slice pa m.params.length pc) := (HC.out w7 HB7.out).1 3; have d7 : w7.cell? ⟨w.heap.size, 7, none⟩ = some (.slice ia m.code.length ic) := (HC.out w7 HB7.out).1 7; have d8 : w7.cell? ⟨w.heap.size, 8, none⟩ = some (.slice ka m.catches.length kc) := (HC.out w7 HB7.out).1 8; have f3 := (HC.out w7 HB7.out).2.1 3; have f7 := (HC.out w7 HB7.out).2.1 7; have f8 := (HC.out w7 HB7.out).2.1 8
     clear ho7 hg7)
  | (go_simp
     refine (HT.out _ (HB0.out.trans (HD.out.mono HB0.out.size))).mono ?_; rintro e w5 ⟨v5, rfl, ho5, hb5⟩; have HO5 := hide ho5; have HB5 := hide (HD.out.trans (hb5.mono HD.out.size)); obtain ⟨a5, n5, rfl⟩ := ho5.shape; have c57 : w5.cell? ⟨w.heap.size, 7, none⟩ = some (.slice ia m.code.length ic) := (HC.out w5 HB5.out).1 7; have c58 : w5.cell? ⟨w.heap.size, 8, none⟩ = some (.slice ka m.catches.length kc) := (HC.out w5 HB5.out).1 8
     clear ho5 hb5))
 all_goals
  have g0 : w7.cell? ⟨w.heap.size, 0, none⟩ = some (.string ⟨m.name.toArray⟩) := (HC.out w7 HB7.out).1 0; have g1 : w7.cell? ⟨w.heap.size, 1, none⟩ = some (.bool m.stat) := (HC.out w7 HB7.out).1 1; have g2 : w7.cell? ⟨w.heap.size, 2, none⟩ = some (.bool m.abst) := (HC.out w7 HB7.out).1 2; have g4 : w7.cell? ⟨w.heap.size, 4, none⟩ = some (.int .i64 m.ret.kind) := (HC.out w7 HB7.out).1 4; have g5 : w7.cell? ⟨w.heap.size, 5, none⟩ = some (.string ⟨m.ret.name.toArray⟩) := (HC.out w7 HB7.out).1 5; have g6 : w7.cell? ⟨w.heap.size, 6, none⟩ = some (.int .i64 m.locals) := (HC.out w7 HB7.out).1 6; have e0 : w7.cell? ⟨w.heap.size + 1, 0, none⟩ = some (.string ⟨#[]⟩) := (HC.out w7 HB7.out).2.2.1 0; have q0 := (HC.out w7 HB7.out).2.2.2 0; have e1 : w7.cell? ⟨w.heap.size + 1, 1, none⟩ = some (.bool false) := (HC.out w7 HB7.out).2.2.1 1; have q1 := (HC.out w7 HB7.out).2.2.2 1; have e2 : w7.cell? ⟨w.heap.size + 1, 2, none⟩ = some (.bool false) := (HC.out w7 HB7.out).2.2.1 2; have q2 := (HC.out w7 HB7.out).2.2.2 2; have e3 : w7.cell? ⟨w.heap.size + 1, 3, none⟩ = some (.slice none 0 0) := (HC.out w7 HB7.out).2.2.1 3; have q3 := (HC.out w7 HB7.out).2.2.2 3; have e4 : w7.cell? ⟨w.heap.size + 1, 4, none⟩ = some (.int .i64 0) := (HC.out w7 HB7.out).2.2.1 4; have q4 := (HC.out w7 HB7.out).2.2.2 4; have e5 : w7.cell? ⟨w.heap.size + 1, 5, none⟩ = some (.string ⟨#[]⟩) := (HC.out w7 HB7.out).2.2.1 5; have q5 := (HC.out w7 HB7.out).2.2.2 5; have e6 : w7.cell? ⟨w.heap.size + 1, 6, none⟩ = some (.int .i64 0) := (HC.out w7 HB7.out).2.2.1 6; have q6 := (HC.out w7 HB7.out).2.2.2 6; have e7 : w7.cell? ⟨w.heap.size + 1, 7, none⟩ = some (.slice none 0 0) := (HC.out w7 HB7.out).2.2.1 7; have q7 := (HC.out w7 HB7.out).2.2.2 7; have e8 : w7.cell? ⟨w.heap.size + 1, 8, none⟩ = some (.slice none 0 0) := (HC.out w7 HB7.out).2.2.1 8; have q8 := (HC.out w7 HB7.out).2.2.2 8; clear c3 c7 c8; have T0 : Ow.Ty w7 w.heap.size 39 := HM0.out w7 HB7.out; have T1 : Ow.Ty w7 (w.heap.size + 1) 39 := HM1.out w7 HB7.out; have HSp := hide (Ow.sets12 (v3 := .slice a5 m.params.length n5) (v7 := .slice a6 m.code.length n6) (v8 := .slice a7 m.catches.length n7) (u0 := .string ⟨m.name.toArray⟩) (u1 := .bool m.stat) (u2 := .bool m.abst) (u3 := .slice a5 m.params.length n5) (u4 := .int .i64 m.ret.kind) (u5 := .string ⟨m.ret.name.toArray⟩) (u6 := .int .i64 m.locals) (u7 := .slice a6 m.code.length n6) (u8 := .slice a7 m.catches.length n7) T0 T1); clear T0 T1; go_wp2_with fail; refine bodyPost_ret (v := .agg (mthXL m (.slice a5 m.params.length n5) (.slice a6 m.code.length n6) (.slice a7 m.catches.length n7)).toArray) (by simp [results, Tryz.results57, go_sem, mthXL, *]) rfl ?_
  have hB7 := HB0.out.trans (HB7.out.mono HB0.out.size); have s5 := HB5.out.size; have s6 := HB6.out.size; have s0 := HB0.out.size; refine ⟨_, rfl, ⟨_, _, _, rfl, ?_, ?_, ?_, HZ.out⟩, hB7.trans HSp.out.2⟩
  · exact ((((HO5.out.on H6.out fun _ _ h => h).on H7.out fun _ _ h => h).kx HSp.out.1 (by decide) fun _ _ h => h).low s0 fun _ _ h => h)
  · exact (((HO6.out.on H7.out fun _ _ h => h).kx HSp.out.1 (by decide) fun _ _ h => h).low (Nat.le_trans s0 s5) fun _ _ h => h)
  · exact ((HO7.out.kx HSp.out.1 (by decide) fun _ _ h => h).low (Nat.le_trans s0 s6) fun _ _ h => h)
end Go.Proofs.YtjlappamkfjlkaaGreatDoor
