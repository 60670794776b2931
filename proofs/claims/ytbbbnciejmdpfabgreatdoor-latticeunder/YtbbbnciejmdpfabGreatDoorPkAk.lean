/- What the laws of this seat lean on: 4 texts. -/
import Derived.Test.YtbbbnciejmdpfabGreatDoorPkAj
import Derived.Deep.RegionHeld3
set_option maxRecDepth 100000
set_option maxHeartbeats 64000000
set_option linter.unusedVariables false
set_option linter.unusedSimpArgs false
namespace Go.Proofs.YtbbbnciejmdpfabGreatDoor
namespace Ly
def firstL {α : Type} (f : α -> Int) : List α -> Int
 | [] => 0
 | a :: l => if f a = 0 then firstL f l else f a
theorem firstL_take {α : Type} {f : α -> Int} {l : List α} {k : Nat} {x : α} (h : firstL f (l.take k) = 0) (hx : l[k]? = some x) : firstL f (l.take (k + 1)) = f x := by
 induction l generalizing k with
 | nil => simp at hx
 | cons a l ih =>
   cases k with
   | zero =>
     simp at hx; subst hx; simp only [Nat.zero_add, List.take_succ_cons, List.take_zero, firstL]
     split
     · exact Eq.symm (by assumption)
     · rfl
   | succ k =>
     rw [List.take_succ_cons] at h ⊢; simp only [firstL] at h ⊢
     split at h
     · rename_i h0
       rw [if_pos h0]; exact ih h (by simpa using hx)
     · rename_i h0
       exact absurd h h0
theorem firstL_stop {α : Type} {f : α -> Int} {l : List α} {k : Nat} {x : α} (h : firstL f (l.take k) = 0) (hx : l[k]? = some x) (hf : f x ≠ 0) : firstL f l = f x := by
 induction l generalizing k with
 | nil => simp at hx
 | cons a l ih =>
   cases k with
   | zero =>
     simp at hx; subst hx; simp only [firstL, if_neg hf]
   | succ k =>
     rw [List.take_succ_cons] at h; simp only [firstL] at h ⊢
     split at h
     · rename_i h0
       rw [if_pos h0]; exact ih h (by simpa using hx)
     · rename_i h0
       exact absurd h h0
theorem firstL_congr {α β : Type} {f : α -> Int} {g : β -> Int} (e : α -> β) : ∀ {l : List α}, (∀ x ∈ l, g (e x) = f x) -> firstL g (l.map e) = firstL f l
 | [], _ => rfl
 | a :: l, h => by
   rw [List.map_cons]; simp only [firstL]; rw [h a (by simp), firstL_congr e fun x hx => h x (List.mem_cons_of_mem _ hx)]
theorem any_take {α : Type} {p : α -> Bool} {l : List α} {k : Nat} {x : α} (h : (l.take k).any p = false) (hx : l[k]? = some x) (hp : p x = false) : (l.take (k + 1)).any p = false := by
 rw [List.take_add_one, hx]; simp only [Option.toList_some, List.any_append, h, List.any_cons, List.any_nil, hp, Bool.or_false]
theorem any_stop {α : Type} {p : α -> Bool} {l : List α} {k : Nat} {x : α} (hx : l[k]? = some x) (hp : p x = true) : l.any p = true := List.any_eq_true.2 ⟨x, List.mem_of_getElem? hx, hp⟩
theorem any_end {α : Type} {p : α -> Bool} {l : List α} {k : Nat} (h : (l.take k).any p = false) (hk : l.length <= k) : l.any p = false := by rwa [List.take_of_length_le hk] at h
theorem all_take {α : Type} {p : α -> Bool} {l : List α} {k : Nat} {x : α} (h : (l.take k).all p = true) (hx : l[k]? = some x) (hp : p x = true) : (l.take (k + 1)).all p = true := by
 rw [List.take_add_one, hx]; simp only [Option.toList_some, List.all_append, h, List.all_cons, List.all_nil, hp, Bool.and_true]
theorem all_stop {α : Type} {p : α -> Bool} {l : List α} {k : Nat} {x : α} (hx : l[k]? = some x) (hp : p x = false) : l.all p = false := by
 cases h : l.all p with
 | false => rfl
 | true => rw [List.all_eq_true.1 h x (List.mem_of_getElem? hx)] at hp; cases hp
theorem all_end {α : Type} {p : α -> Bool} {l : List α} {k : Nat} (h : (l.take k).all p = true) (hk : l.length <= k) : l.all p = true := by rwa [List.take_of_length_le hk] at h
theorem find_take {α : Type} {p : α -> Bool} {l : List α} {k : Nat} {x : α} (h : (l.take k).any p = false) (hx : l[k]? = some x) (hp : p x = true) : l.find? p = some x := by
 rw [List.find?_eq_some_iff_append]; have hlt := (List.getElem?_eq_some_iff.1 hx).1; refine ⟨hp, l.take k, l.drop (k + 1), ?_, fun a ha => ?_⟩
 · have h1 : l[k] = x := by simpa [List.getElem?_eq_getElem hlt] using hx
   rw [<- h1, <- List.drop_eq_getElem_cons hlt, List.take_append_drop]
 · have := List.any_eq_false.1 h a ha
   simpa using this
theorem find_end {α : Type} {p : α -> Bool} {l : List α} {k : Nat} (h : (l.take k).any p = false) (hk : l.length <= k) : l.find? p = none := by
 rw [List.find?_eq_none]; intro x hx; exact List.any_eq_false.1 (any_end h hk) x hx
end Ly
open Go.RowKit
theorem ifTy_any (l : List Pp.Ty) (v : Value)  (p : Pp.Ty -> Bool) (w : World) (h : RowX w 2 TyX v l) (hn : l.length <= 100000)
 (hf : ∀ (x : Pp.Ty) (ys : List Value), x ∈ l -> TyX x ys -> ∀ wx, Below w.heap.size w wx -> Calls Tryz.prog 106 #[.agg ys.toArray] wx fun e w' => e = .returned (.bool (p x)) /\ Below wx.heap.size wx w') :
 Calls Tryz.prog 127 #[v, .func (.func 106) #[] #[]] w fun e w' => (∃ n : Int, e = .returned (.int .i64 n) /\ (0 <= n ↔ l.any p = true)) /\ Below w.heap.size w w' := by
 have HR := hide h; have HF := hide hf; obtain ⟨a, c, rfl, _⟩ := h.len; clear h hf; obtain ⟨m, hm⟩ : ∃ q, q = l.length := ⟨_, rfl⟩; have HN := hide hm; rw [<- hm] at HR hn ⊢; clear hm; obtain ⟨q, hq⟩ : ∃ q, q = l.any p := ⟨_, rfl⟩; have HQ := hide hq; rw [<- hq]; clear hq; go_enter Tryz.func127, Tryz.ntmps127; go_wp2_with fail
 go_loopw [8] (fun i wr => ∃ k : Nat, k <= m /\ i = .int .i64 k /\ Hid (Below w.heap.size w wr) /\ Hid ((l.take k).any p = false)) (fun i _ => m - (intOf i).toNat)
 case atStart => exact ⟨0, Nat.zero_le _, rfl, hide (Below.refl _ _), hide (by simp)⟩
 case round =>
  obtain ⟨k, hk, rfl, HB, HNo⟩ := hrel; by_cases hlt : k < m
  · obtain ⟨x, hx⟩ : ∃ x, l[k]? = some x := ⟨l[k]'(by rw [<- HN.out]; exact hlt), List.getElem?_eq_getElem _⟩
    obtain ⟨g, o, rfl, ys, wf, hc⟩ := Ow.row_at' HR.out hx; have hG := hide (hc wr HB.out); have HX := hide (HF.out x ys (List.mem_of_getElem? hx) wf wr HB.out); have HY := hide (fun hp => HQ.out.trans (Ly.any_stop (p := p) hx hp)); have HZ := hide (fun hp => Ly.any_take (p := p) HNo.out hx hp); clear hc hx HNo; generalize p x = px at HX HY HZ; obtain ⟨tk, tn⟩ := x; obtain ⟨rfl, _⟩ := wf; have r0 := hG.out 0 _ rfl; have r1 := hG.out 1 _ rfl; rw [Nat.add_zero] at r0
    try dsimp only at r0 r1
    clear hG; have hlt' : (k : Int) < (m : Int) := by omega
    have hm1 : (m : Int) <= 100000 := by omega
    go_wp2_with fail; refine HX.out.mono ?_; rintro e w1 ⟨rfl, hb1⟩; have HB1 := hide (HB.out.trans (hb1.mono HB.out.size)); clear HX hb1; cases px with
    | true =>
      have HY' := hide (HY.out rfl); clear HY HZ; go_wp2_with fail; go_ret; exact ⟨⟨_, rfl, iff_of_true (by omega) HY'.out⟩, HB1.out⟩
    | false =>
      have HZ' := hide (HZ.out rfl); clear HY HZ; go_wp2_with fail
      go_roundw
      case rel => exact ⟨k + 1, by omega, by go_num, HB1, HZ'⟩
      case measure => simp [intOf]; omega
  · have HZ : Hid (q = false) := hide (HQ.out.trans <| Ly.any_end HNo.out (by rw [<- HN.out]; omega))
    have hnl : ¬ ((k : Int) < (m : Int)) := by omega
    clear HNo; go_wp2_with fail; go_ret; exact ⟨⟨_, rfl, iff_of_false (by omega) (by rw [HZ.out]; decide)⟩, HB.out⟩
theorem cfTy_any (l : List Pp.Ty) (v : Value)  (p : Pp.Ty -> Bool) (w : World) (h : RowX w 2 TyX v l) (hn : l.length <= 100000)
 (hf : ∀ (x : Pp.Ty) (ys : List Value), x ∈ l -> TyX x ys -> ∀ wx, Below w.heap.size w wx -> Calls Tryz.prog 106 #[.agg ys.toArray] wx fun e w' => e = .returned (.bool (p x)) /\ Below wx.heap.size wx w') :
 Calls Tryz.prog 107 #[v, .func (.func 106) #[] #[]] w fun e w' => e = .returned (.bool (l.any p)) /\ Below w.heap.size w w' := by
 have HI := hide (ifTy_any l v  p w h hn hf); obtain ⟨a, c, rfl, _⟩ := h.len; clear h hf; go_enter Tryz.func107, Tryz.ntmps107; go_wp2_with fail; refine HI.out.mono ?_; rintro e w1 ⟨⟨m, rfl, hm⟩, hb⟩; have HM := hide hm; have HB := hide hb; clear HI hm hb; go_wp2_with fail; go_ret; refine ⟨?_, HB.out⟩; cases h : l.any p with
 | true => have := HM.out.2 h; simp; omega
 | false =>
   have : ¬ 0 <= m := fun h2 => by rw [HM.out.1 h2] at h; cases h
   simp; omega
theorem ifSl_any (l : List Pp.Slt) (v : Value) (c0 : Addr) (p : Pp.Slt -> Bool) (w : World) (h : RowX w 4 SltX v l) (hn : l.length <= 100000)
 (hf : ∀ (x : Pp.Slt) (ys : List Value), x ∈ l -> SltX x ys -> ∀ wx, Below w.heap.size w wx -> Calls Tryz.prog 114 #[.agg ys.toArray, .pointer (some c0)] wx fun e w' => e = .returned (.bool (p x)) /\ Below wx.heap.size wx w') :
 Calls Tryz.prog 132 #[v, .func (.func 114) #[] #[.pointer (some c0)]] w fun e w' => (∃ n : Int, e = .returned (.int .i64 n) /\ (0 <= n ↔ l.any p = true)) /\ Below w.heap.size w w' := by
 have HR := hide h; have HF := hide hf; obtain ⟨a, c, rfl, _⟩ := h.len; clear h hf; obtain ⟨m, hm⟩ : ∃ q, q = l.length := ⟨_, rfl⟩; have HN := hide hm; rw [<- hm] at HR hn ⊢; clear hm; obtain ⟨q, hq⟩ : ∃ q, q = l.any p := ⟨_, rfl⟩; have HQ := hide hq; rw [<- hq]; clear hq; go_enter Tryz.func132, Tryz.ntmps132; go_wp2_with fail
 go_loopw [8] (fun i wr => ∃ k : Nat, k <= m /\ i = .int .i64 k /\ Hid (Below w.heap.size w wr) /\ Hid ((l.take k).any p = false)) (fun i _ => m - (intOf i).toNat)
 case atStart => exact ⟨0, Nat.zero_le _, rfl, hide (Below.refl _ _), hide (by simp)⟩
 case round =>
  obtain ⟨k, hk, rfl, HB, HNo⟩ := hrel; by_cases hlt : k < m
  · obtain ⟨x, hx⟩ : ∃ x, l[k]? = some x := ⟨l[k]'(by rw [<- HN.out]; exact hlt), List.getElem?_eq_getElem _⟩
    obtain ⟨g, o, rfl, ys, wf, hc⟩ := Ow.row_at' HR.out hx; have hG := hide (hc wr HB.out); have HX := hide (HF.out x ys (List.mem_of_getElem? hx) wf wr HB.out); have HY := hide (fun hp => HQ.out.trans (Ly.any_stop (p := p) hx hp)); have HZ := hide (fun hp => Ly.any_take (p := p) HNo.out hx hp); clear hc hx HNo; generalize p x = px at HX HY HZ; obtain ⟨so, sn, ⟨sk, st⟩⟩ := x; have wf' : ys = [.string ⟨so.toArray⟩, .string ⟨sn.toArray⟩, .int .i64 sk, .string ⟨st.toArray⟩] := wf; subst wf'; have r0 := hG.out 0 _ rfl; have r1 := hG.out 1 _ rfl; have r2 := hG.out 2 _ rfl; have r3 := hG.out 3 _ rfl; rw [Nat.add_zero] at r0
    try dsimp only at r0 r1 r2 r3
    clear hG; have hlt' : (k : Int) < (m : Int) := by omega
    have hm1 : (m : Int) <= 100000 := by omega
    go_wp2_with fail; refine HX.out.mono ?_; rintro e w1 ⟨rfl, hb1⟩; have HB1 := hide (HB.out.trans (hb1.mono HB.out.size)); clear HX hb1; cases px with
    | true =>
      have HY' := hide (HY.out rfl); clear HY HZ; go_wp2_with fail; go_ret; exact ⟨⟨_, rfl, iff_of_true (by omega) HY'.out⟩, HB1.out⟩
    | false =>
      have HZ' := hide (HZ.out rfl); clear HY HZ; go_wp2_with fail
      go_roundw
      case rel => exact ⟨k + 1, by omega, by go_num, HB1, HZ'⟩
      case measure => simp [intOf]; omega
  · have HZ : Hid (q = false) := hide (HQ.out.trans <| Ly.any_end HNo.out (by rw [<- HN.out]; omega))
    have hnl : ¬ ((k : Int) < (m : Int)) := by omega
    clear HNo; go_wp2_with fail; go_ret; exact ⟨⟨_, rfl, iff_of_false (by omega) (by rw [HZ.out]; decide)⟩, HB.out⟩
theorem cfSl_any (l : List Pp.Slt) (v : Value) (c0 : Addr) (p : Pp.Slt -> Bool) (w : World) (h : RowX w 4 SltX v l) (hn : l.length <= 100000)
 (hf : ∀ (x : Pp.Slt) (ys : List Value), x ∈ l -> SltX x ys -> ∀ wx, Below w.heap.size w wx -> Calls Tryz.prog 114 #[.agg ys.toArray, .pointer (some c0)] wx fun e w' => e = .returned (.bool (p x)) /\ Below wx.heap.size wx w') :
 Calls Tryz.prog 113 #[v, .func (.func 114) #[] #[.pointer (some c0)]] w fun e w' => e = .returned (.bool (l.any p)) /\ Below w.heap.size w w' := by
 have HI := hide (ifSl_any l v c0 p w h hn hf); obtain ⟨a, c, rfl, _⟩ := h.len; clear h hf; go_enter Tryz.func113, Tryz.ntmps113; go_wp2_with fail; refine HI.out.mono ?_; rintro e w1 ⟨⟨m, rfl, hm⟩, hb⟩; have HM := hide hm; have HB := hide hb; clear HI hm hb; go_wp2_with fail; go_ret; refine ⟨?_, HB.out⟩; cases h : l.any p with
 | true => have := HM.out.2 h; simp; omega
 | false =>
   have : ¬ 0 <= m := fun h2 => by rw [HM.out.1 h2] at h; cases h
   simp; omega
theorem ifFl_any (l : List Pp.Fld) (v : Value) (c0 : Addr) (c1 : Addr) (p : Pp.Fld -> Bool) (w : World) (h : RowX w 4 FldX v l) (hn : l.length <= 100000)
 (hf : ∀ (x : Pp.Fld) (ys : List Value), x ∈ l -> FldX x ys -> ∀ wx, Below w.heap.size w wx -> Calls Tryz.prog 129 #[.agg ys.toArray, .pointer (some c0), .pointer (some c1)] wx fun e w' => e = .returned (.bool (p x)) /\ Below wx.heap.size wx w') :
 Calls Tryz.prog 141 #[v, .func (.func 129) #[] #[.pointer (some c0), .pointer (some c1)]] w fun e w' => (∃ n : Int, e = .returned (.int .i64 n) /\ (0 <= n ↔ l.any p = true)) /\ Below w.heap.size w w' := by
 have HR := hide h; have HF := hide hf; obtain ⟨a, c, rfl, _⟩ := h.len; clear h hf; obtain ⟨m, hm⟩ : ∃ q, q = l.length := ⟨_, rfl⟩; have HN := hide hm; rw [<- hm] at HR hn ⊢; clear hm; obtain ⟨q, hq⟩ : ∃ q, q = l.any p := ⟨_, rfl⟩; have HQ := hide hq; rw [<- hq]; clear hq; go_enter Tryz.func141, Tryz.ntmps141; go_wp2_with fail
 go_loopw [8] (fun i wr => ∃ k : Nat, k <= m /\ i = .int .i64 k /\ Hid (Below w.heap.size w wr) /\ Hid ((l.take k).any p = false)) (fun i _ => m - (intOf i).toNat)
 case atStart => exact ⟨0, Nat.zero_le _, rfl, hide (Below.refl _ _), hide (by simp)⟩
 case round =>
  obtain ⟨k, hk, rfl, HB, HNo⟩ := hrel; by_cases hlt : k < m
  · obtain ⟨x, hx⟩ : ∃ x, l[k]? = some x := ⟨l[k]'(by rw [<- HN.out]; exact hlt), List.getElem?_eq_getElem _⟩
    obtain ⟨g, o, rfl, ys, wf, hc⟩ := Ow.row_at' HR.out hx; have hG := hide (hc wr HB.out); have HX := hide (HF.out x ys (List.mem_of_getElem? hx) wf wr HB.out); have HY := hide (fun hp => HQ.out.trans (Ly.any_stop (p := p) hx hp)); have HZ := hide (fun hp => Ly.any_take (p := p) HNo.out hx hp); clear hc hx HNo; generalize p x = px at HX HY HZ; obtain ⟨fnm, ⟨fk, ftn⟩, fst⟩ := x; obtain ⟨rfl, _⟩ := wf; have r0 := hG.out 0 _ rfl; have r1 := hG.out 1 _ rfl; have r2 := hG.out 2 _ rfl; have r3 := hG.out 3 _ rfl; rw [Nat.add_zero] at r0
    try dsimp only at r0 r1 r2 r3
    clear hG; have hlt' : (k : Int) < (m : Int) := by omega
    have hm1 : (m : Int) <= 100000 := by omega
    go_wp2_with fail; refine HX.out.mono ?_; rintro e w1 ⟨rfl, hb1⟩; have HB1 := hide (HB.out.trans (hb1.mono HB.out.size)); clear HX hb1; cases px with
    | true =>
      have HY' := hide (HY.out rfl); clear HY HZ; go_wp2_with fail; go_ret; exact ⟨⟨_, rfl, iff_of_true (by omega) HY'.out⟩, HB1.out⟩
    | false =>
      have HZ' := hide (HZ.out rfl); clear HY HZ; go_wp2_with fail
      go_roundw
      case rel => exact ⟨k + 1, by omega, by go_num, HB1, HZ'⟩
      case measure => simp [intOf]; omega
  · have HZ : Hid (q = false) := hide (HQ.out.trans <| Ly.any_end HNo.out (by rw [<- HN.out]; omega))
    have hnl : ¬ ((k : Int) < (m : Int)) := by omega
    clear HNo; go_wp2_with fail; go_ret; exact ⟨⟨_, rfl, iff_of_false (by omega) (by rw [HZ.out]; decide)⟩, HB.out⟩
theorem cfFl_any (l : List Pp.Fld) (v : Value) (c0 : Addr) (c1 : Addr) (p : Pp.Fld -> Bool) (w : World) (h : RowX w 4 FldX v l) (hn : l.length <= 100000)
 (hf : ∀ (x : Pp.Fld) (ys : List Value), x ∈ l -> FldX x ys -> ∀ wx, Below w.heap.size w wx -> Calls Tryz.prog 129 #[.agg ys.toArray, .pointer (some c0), .pointer (some c1)] wx fun e w' => e = .returned (.bool (p x)) /\ Below wx.heap.size wx w') :
 Calls Tryz.prog 128 #[v, .func (.func 129) #[] #[.pointer (some c0), .pointer (some c1)]] w fun e w' => e = .returned (.bool (l.any p)) /\ Below w.heap.size w w' := by
 have HI := hide (ifFl_any l v c0 c1 p w h hn hf); obtain ⟨a, c, rfl, _⟩ := h.len; clear h hf; go_enter Tryz.func128, Tryz.ntmps128; go_wp2_with fail; refine HI.out.mono ?_; rintro e w1 ⟨⟨m, rfl, hm⟩, hb⟩; have HM := hide hm; have HB := hide hb; clear HI hm hb; go_wp2_with fail; go_ret; refine ⟨?_, HB.out⟩; cases h : l.any p with
 | true => have := HM.out.2 h; simp; omega
 | false =>
   have : ¬ 0 <= m := fun h2 => by rw [HM.out.1 h2] at h; cases h
   simp; omega
theorem ifMt_any (wp : World) (l : List Pp.XMth) (v : Value) (c0 : Addr) (c1 : Addr) (p : Pp.XMth -> Bool) (w : World) (h : RowX w 9 (MthX wp) v l) (hn : l.length <= 100000)
 (hf : ∀ (x : Pp.XMth) (ys : List Value), x ∈ l -> (MthX wp) x ys -> ∀ wx, Below w.heap.size w wx -> Calls Tryz.prog 131 #[.agg ys.toArray, .pointer (some c0), .pointer (some c1)] wx fun e w' => e = .returned (.bool (p x)) /\ Below wx.heap.size wx w') :
 Calls Tryz.prog 142 #[v, .func (.func 131) #[] #[.pointer (some c0), .pointer (some c1)]] w fun e w' => (∃ n : Int, e = .returned (.int .i64 n) /\ (0 <= n ↔ l.any p = true)) /\ Below w.heap.size w w' := by
 have HR := hide h; have HF := hide hf; obtain ⟨a, c, rfl, _⟩ := h.len; clear h hf; obtain ⟨m, hm⟩ : ∃ q, q = l.length := ⟨_, rfl⟩; have HN := hide hm; rw [<- hm] at HR hn ⊢; clear hm; obtain ⟨q, hq⟩ : ∃ q, q = l.any p := ⟨_, rfl⟩; have HQ := hide hq; rw [<- hq]; clear hq; go_enter Tryz.func142, Tryz.ntmps142; go_wp2_with fail
 go_loopw [8] (fun i wr => ∃ k : Nat, k <= m /\ i = .int .i64 k /\ Hid (Below w.heap.size w wr) /\ Hid ((l.take k).any p = false)) (fun i _ => m - (intOf i).toNat)
 case atStart => exact ⟨0, Nat.zero_le _, rfl, hide (Below.refl _ _), hide (by simp)⟩
 case round =>
  obtain ⟨k, hk, rfl, HB, HNo⟩ := hrel; by_cases hlt : k < m
  · obtain ⟨x, hx⟩ : ∃ x, l[k]? = some x := ⟨l[k]'(by rw [<- HN.out]; exact hlt), List.getElem?_eq_getElem _⟩
    obtain ⟨g, o, rfl, ys, wf, hc⟩ := Ow.row_at' HR.out hx; have hG := hide (hc wr HB.out); have HX := hide (HF.out x ys (List.mem_of_getElem? hx) wf wr HB.out); have HY := hide (fun hp => HQ.out.trans (Ly.any_stop (p := p) hx hp)); have HZ := hide (fun hp => Ly.any_take (p := p) HNo.out hx hp); clear hc hx HNo; generalize p x = px at HX HY HZ; obtain ⟨vp, vc, vk, rfl, x1, x2, x3, _⟩ := wf; obtain ⟨va1, vd1, rfl, _⟩ := x1.len; obtain ⟨va2, vd2, rfl, _⟩ := x2.len; obtain ⟨va3, vd3, rfl, _⟩ := x3.len; clear x1 x2 x3; have r0 := hG.out 0 _ rfl; have r1 := hG.out 1 _ rfl; have r2 := hG.out 2 _ rfl; have r3 := hG.out 3 _ rfl; have r4 := hG.out 4 _ rfl; have r5 := hG.out 5 _ rfl; have r6 := hG.out 6 _ rfl; have r7 := hG.out 7 _ rfl; have r8 := hG.out 8 _ rfl; rw [Nat.add_zero] at r0
    try dsimp only at r0 r1 r2 r3 r4 r5 r6 r7 r8
    clear hG; have hlt' : (k : Int) < (m : Int) := by omega
    have hm1 : (m : Int) <= 100000 := by omega
    go_wp2_with fail; refine HX.out.mono ?_; rintro e w1 ⟨rfl, hb1⟩; have HB1 := hide (HB.out.trans (hb1.mono HB.out.size)); clear HX hb1; cases px with
    | true =>
      have HY' := hide (HY.out rfl); clear HY HZ; go_wp2_with fail; go_ret; exact ⟨⟨_, rfl, iff_of_true (by omega) HY'.out⟩, HB1.out⟩
    | false =>
      have HZ' := hide (HZ.out rfl); clear HY HZ; go_wp2_with fail
      go_roundw
      case rel => exact ⟨k + 1, by omega, by go_num, HB1, HZ'⟩
      case measure => simp [intOf]; omega
  · have HZ : Hid (q = false) := hide (HQ.out.trans <| Ly.any_end HNo.out (by rw [<- HN.out]; omega))
    have hnl : ¬ ((k : Int) < (m : Int)) := by omega
    clear HNo; go_wp2_with fail; go_ret; exact ⟨⟨_, rfl, iff_of_false (by omega) (by rw [HZ.out]; decide)⟩, HB.out⟩
theorem cfMt_any (wp : World) (l : List Pp.XMth) (v : Value) (c0 : Addr) (c1 : Addr) (p : Pp.XMth -> Bool) (w : World) (h : RowX w 9 (MthX wp) v l) (hn : l.length <= 100000)
 (hf : ∀ (x : Pp.XMth) (ys : List Value), x ∈ l -> (MthX wp) x ys -> ∀ wx, Below w.heap.size w wx -> Calls Tryz.prog 131 #[.agg ys.toArray, .pointer (some c0), .pointer (some c1)] wx fun e w' => e = .returned (.bool (p x)) /\ Below wx.heap.size wx w') :
 Calls Tryz.prog 130 #[v, .func (.func 131) #[] #[.pointer (some c0), .pointer (some c1)]] w fun e w' => e = .returned (.bool (l.any p)) /\ Below w.heap.size w w' := by
 have HI := hide (ifMt_any wp l v c0 c1 p w h hn hf); obtain ⟨a, c, rfl, _⟩ := h.len; clear h hf; go_enter Tryz.func130, Tryz.ntmps130; go_wp2_with fail; refine HI.out.mono ?_; rintro e w1 ⟨⟨m, rfl, hm⟩, hb⟩; have HM := hide hm; have HB := hide hb; clear HI hm hb; go_wp2_with fail; go_ret; refine ⟨?_, HB.out⟩; cases h : l.any p with
 | true => have := HM.out.2 h; simp; omega
 | false =>
   have : ¬ 0 <= m := fun h2 => by rw [HM.out.1 h2] at h; cases h
   simp; omega
theorem tfind_any (bs : List Nat) (nm : Nat -> Pp.Bs) (v : Value) (n : Pp.Bs) (w : World) (h : RowX w 1 PtrX v bs) (hn : bs.length <= 1000) (hc : ∀ b ∈ bs, w.cell? ⟨b, 0, none⟩ = some (.string ⟨(nm b).toArray⟩)) :
 Calls Tryz.prog 81 #[v, .string ⟨n.toArray⟩] w fun e w' => e = .returned (.tuple #[.pointer ((bs.find? fun b => nm b == n).map fun b => ⟨b, 0, none⟩), .bool (bs.find? fun b => nm b == n).isSome]) /\ w' = w := by
 have HR := hide h; have HC := hide hc; obtain ⟨a, c, rfl, _⟩ := h.len; clear h hc; obtain ⟨m, hm⟩ : ∃ q, q = bs.length := ⟨_, rfl⟩; have HN := hide hm; rw [<- hm] at HR hn ⊢; clear hm; go_enter Tryz.func81, Tryz.ntmps81; go_wp2_with fail
 go_loop [10] (fun i => ∃ k : Nat, k <= m /\ i = .int .i64 k /\ Hid ((bs.take k).any (fun b => nm b == n) = false)) (fun i => m - (intOf i).toNat)
 case atStart => exact ⟨0, Nat.zero_le _, rfl, hide (by simp)⟩
 case round =>
  obtain ⟨k, hk, rfl, HNo⟩ := hrel; by_cases hlt : k < m
  · obtain ⟨x, hx⟩ : ∃ x, bs[k]? = some x := ⟨bs[k]'(by rw [<- HN.out]; exact hlt), List.getElem?_eq_getElem _⟩
    obtain ⟨g, o, rfl, ys, wf, hc⟩ := Ow.row_at' HR.out hx; have hwf : ys = [.pointer (some ⟨x, 0, none⟩)] := wf; subst hwf; have r0 := hc w (Below.refl _ _) 0 _ rfl; rw [Nat.add_zero, Nat.mul_one] at r0; have c0 := HC.out x (List.mem_of_getElem? hx); have hlt' : (k : Int) < (m : Int) := by omega
    by_cases hb : nm x = n
    · have HF : Hid (bs.find? (fun b => nm b == n) = some x) := hide (Ly.find_take HNo.out hx (by simp [hb]))
      rw [hb] at c0; clear hx hb hc wf HNo; go_wp2_with fail; go_ret2; rw [HF.out]; exact ⟨rfl, rfl⟩
    · have hne : (nm x == n) = false := by simp [hb]
      have HNo2 := hide (Ly.any_take HNo.out hx hne); clear hx hb hc wf HNo; generalize nm x = y0 at *
      go_wp2_with fail
      go_round
      case rel => exact ⟨k + 1, by omega, by go_num, HNo2⟩
      case measure => simp [intOf]; omega
  · have HF : Hid (bs.find? (fun b => nm b == n) = none) := hide (Ly.find_end HNo.out (by rw [<- HN.out]; omega))
    have hnl : ¬ ((k : Int) < (m : Int)) := by omega
    clear HNo; go_wp2_with fail; go_ret2; rw [HF.out]; exact ⟨rfl, rfl⟩
theorem isVoid_any (t : Pp.Ty) (ys : List Value) (w : World) (h : TyX t ys) :
 Calls Tryz.prog 106 #[.agg ys.toArray] w fun e w' => e = .returned (.bool (t.kind == 1)) /\ Below w.heap.size w w' := by
 obtain ⟨rfl, _⟩ := h; simp only [tyL]; have HB := hide ((Below.refl w.heap.size w).alloc (Nat.le_refl _) (.cells #[.int .i64 t.kind, .string ⟨t.name.toArray⟩] 36)); go_enter Tryz.func106, Tryz.ntmps106; go_wp2_with fail; go_ret; exact ⟨rfl, HB.out⟩
theorem anyVoid_any (l : List Pp.Ty) (v : Value) (w : World) (h : RowX w 2 TyX v l) (hn : l.length <= 1000) :
 Calls Tryz.prog 107 #[v, .func (.func 106) #[] #[]] w fun e w' => e = .returned (.bool (l.any fun t => t.kind == 1)) /\ Below w.heap.size w w' :=
 cfTy_any l v (fun t => t.kind == 1) w h (by omega) fun x ys _ hp wx _ => isVoid_any x ys wx hp
theorem hs1_any (s : Pp.Slt) (ys : List Value) (c : Addr) (n : Pp.Bs) (w : World) (h : SltX s ys) (hc : w.cell? c = some (.string ⟨n.toArray⟩)) (hl : c.block < w.heap.size) :
 Calls Tryz.prog 114 #[.agg ys.toArray, .pointer (some c)] w fun e w' => e = .returned (.bool (s.name == n)) /\ Below w.heap.size w w' := by
 have hys : ys = [.string ⟨s.owner.toArray⟩, .string ⟨s.name.toArray⟩, .int .i64 s.ty.kind, .string ⟨s.ty.name.toArray⟩] := h; subst hys; have hb0 := (Below.refl w.heap.size w).alloc (Nat.le_refl _) (.cells #[.string ⟨s.owner.toArray⟩, .string ⟨s.name.toArray⟩, .int .i64 s.ty.kind, .string ⟨s.ty.name.toArray⟩] 80); have HB := hide hb0; have c0 := (hb0.cell hl).trans hc; clear hc hb0 h; go_enter Tryz.func114, Tryz.ntmps114; go_wp2_with fail; go_ret; exact ⟨rfl, HB.out⟩
end Go.Proofs.YtbbbnciejmdpfabGreatDoor
