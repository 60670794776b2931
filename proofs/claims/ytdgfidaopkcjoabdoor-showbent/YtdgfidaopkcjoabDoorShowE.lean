/- What show.each answers. -/
import Derived.Test.YtdgfidaopkcjoabDoorShowB
namespace Go.Proofs.YtdgfidaopkcjoabDoor
open Go.RowKit
set_option linter.unusedVariables false
set_option linter.unusedSimpArgs false

set_option maxRecDepth 100000 in
set_option maxHeartbeats 4000000 in
theorem eachS_any (l : List Pp.Bs) (v : Value) (most : Nat) (hmost : most ≤ 1000) (w : World) (ht : TabS w) (h : RowX w 1 StrX v l) (hl : l.length ≤ maxLen) :
    Calls Tryd.prog 34 #[v, .int .i64 (most : Int), .func (.func 32) #[] #[]] w fun e w' => e = .returned (.bool (Pp.eachB l most Pp.freshB)) ∧ Below w.heap.size w w' := by
  obtain ⟨a, c, rfl, hc, hr⟩ := h
  have hC := hide (fun (x : Pp.Bs) (ys : List Value) (hx : StrX x ys) w' (hb : Below w.heap.size w w') => fresh_any x hx.2 w' (ht.below hb))
  clear ht
  unfold maxLen at hl
  obtain ⟨len, hlen⟩ : ∃ len, len = l.length := ⟨_, rfl⟩
  have HL := hide hlen
  rw [← hlen] at hl hc ⊢
  clear hlen
  have HR := hide hr
  clear hr
  by_cases hm : most < len
  · have hR : Hid (Pp.eachB l most Pp.freshB = false) := hide (by unfold Pp.eachB; rw [← HL.out]; simp; omega)
    go_enter Tryd.func34, Tryd.ntmps34
    go_wp2_with fail
    go_ret
    exact ⟨by rw [hR.out]; rfl, Below.refl _ _⟩
  · have hR : Hid (Pp.eachB l most Pp.freshB = l.all Pp.freshB) := hide (by unfold Pp.eachB; rw [← HL.out]; simp; omega)
    rw [hR.out]
    clear hR
    go_enter Tryd.func34, Tryd.ntmps34
    go_wp2_with fail
    go_loopw [15] (fun i wr => ∃ k : Nat, k ≤ len ∧ i = .int .i64 k ∧ Below w.heap.size w wr ∧ Hid ((l.take k).all Pp.freshB = true)) (fun i _ => len - (intOf i).toNat)
    case atStart => exact ⟨0, Nat.zero_le _, rfl, Below.refl _ _, rfl⟩
    case round =>
      obtain ⟨k, hk, rfl, hbel, hal⟩ := hrel
      by_cases hlt : k < len
      · have hco : k < l.length := by rw [← HL.out]; exact hlt
        rcases HR.out with h0 | ⟨b, o, rfl, hb1, hc1⟩
        · rw [h0] at hco; simp at hco
        obtain ⟨x, hx⟩ : ∃ x, l[k]? = some x := ⟨l[k]'hco, List.getElem?_eq_getElem _⟩
        obtain ⟨ys, e1, g1⟩ := hc1 k x hx
        have hstep : Hid ((l.take (k + 1)).all Pp.freshB = Pp.freshB x) := hide (by
          rw [List.take_add_one, List.all_append, hal.out, hx]; simp)
        have hmem : Hid (Pp.freshB x = false → l.all Pp.freshB = false) := hide (fun h => by
          rw [List.all_eq_false]; exact ⟨x, List.mem_of_getElem? hx, by rw [h]; exact Bool.false_ne_true⟩)
        have hG := hide g1
        have HC := hide (fun wq (hq : Below wr.heap.size wr wq) => hC.out x ys e1 wq (hbel.trans (hq.mono hbel.size)))
        clear hc1 HR hx hco hal hC g1
        obtain rfl : ys = _ := e1.1
        have r0 := (hbel.cell (by exact hb1)).trans (hG.out 0 _ rfl)
        rw [Nat.add_zero] at r0
        rw [Nat.mul_one] at r0
        clear hG
        generalize (⟨x.toArray⟩ : ByteArray) = S at *
        generalize Pp.freshB x = R at *
        have hlt' : (k : Int) < (len : Int) := by omega
        cases R with
        | false =>
          go_wp2_with fail
          refine (HC.out _ (Below.refl _ _)).mono ?_
          rintro e wq ⟨rfl, hwq⟩
          subst hwq
          go_wp2_with fail
          go_ret
          exact ⟨by rw [hmem.out trivial]; rfl, hbel⟩
        | true =>
          go_wp2_with fail
          refine (HC.out _ (Below.refl _ _)).mono ?_
          rintro e wq ⟨rfl, hwq⟩
          subst hwq
          go_wp2_with fail
          go_roundw
          case rel => exact ⟨k + 1, by omega, by go_num, hbel, hstep⟩
          case measure => simp [intOf]; omega
      · have hN : Hid (l.all Pp.freshB = true) := hide (by rw [← hal.out, List.take_of_length_le (by have := HL.out; omega)])
        go_wp2_with fail
        go_ret
        exact ⟨by rw [hN.out]; rfl, hbel⟩

set_option maxRecDepth 100000 in
set_option maxHeartbeats 4000000 in
theorem eachF_any (l : List Pp.Fld) (v : Value) (most : Nat) (hmost : most ≤ 1000) (w : World) (ht : TabS w) (h : RowX w 4 FldX v l) (hl : l.length ≤ maxLen) :
    Calls Tryd.prog 35 #[v, .int .i64 (most : Int), .func (.func 36) #[] #[]] w fun e w' => e = .returned (.bool (Pp.eachB l most Pp.fldB)) ∧ Below w.heap.size w w' := by
  obtain ⟨a, c, rfl, hc, hr⟩ := h
  have hC := hide (fun (x : Pp.Fld) (ys : List Value) (hx : FldX x ys) w' (hb : Below w.heap.size w w') => isField_any x hx.2.1 hx.2.2 w' (ht.below hb))
  clear ht
  unfold maxLen at hl
  obtain ⟨len, hlen⟩ : ∃ len, len = l.length := ⟨_, rfl⟩
  have HL := hide hlen
  rw [← hlen] at hl hc ⊢
  clear hlen
  have HR := hide hr
  clear hr
  by_cases hm : most < len
  · have hR : Hid (Pp.eachB l most Pp.fldB = false) := hide (by unfold Pp.eachB; rw [← HL.out]; simp; omega)
    go_enter Tryd.func35, Tryd.ntmps35
    go_wp2_with fail
    go_ret
    exact ⟨by rw [hR.out]; rfl, Below.refl _ _⟩
  · have hR : Hid (Pp.eachB l most Pp.fldB = l.all Pp.fldB) := hide (by unfold Pp.eachB; rw [← HL.out]; simp; omega)
    rw [hR.out]
    clear hR
    go_enter Tryd.func35, Tryd.ntmps35
    go_wp2_with fail
    go_loopw [15] (fun i wr => ∃ k : Nat, k ≤ len ∧ i = .int .i64 k ∧ Below w.heap.size w wr ∧ Hid ((l.take k).all Pp.fldB = true)) (fun i _ => len - (intOf i).toNat)
    case atStart => exact ⟨0, Nat.zero_le _, rfl, Below.refl _ _, rfl⟩
    case round =>
      obtain ⟨k, hk, rfl, hbel, hal⟩ := hrel
      by_cases hlt : k < len
      · have hco : k < l.length := by rw [← HL.out]; exact hlt
        rcases HR.out with h0 | ⟨b, o, rfl, hb1, hc1⟩
        · rw [h0] at hco; simp at hco
        obtain ⟨x, hx⟩ : ∃ x, l[k]? = some x := ⟨l[k]'hco, List.getElem?_eq_getElem _⟩
        obtain ⟨ys, e1, g1⟩ := hc1 k x hx
        have hstep : Hid ((l.take (k + 1)).all Pp.fldB = Pp.fldB x) := hide (by
          rw [List.take_add_one, List.all_append, hal.out, hx]; simp)
        have hmem : Hid (Pp.fldB x = false → l.all Pp.fldB = false) := hide (fun h => by
          rw [List.all_eq_false]; exact ⟨x, List.mem_of_getElem? hx, by rw [h]; exact Bool.false_ne_true⟩)
        have hG := hide g1
        have HC := hide (fun wq (hq : Below wr.heap.size wr wq) => hC.out x ys e1 wq (hbel.trans (hq.mono hbel.size)))
        clear hc1 HR hx hco hal hC g1
        obtain rfl : ys = _ := e1.1
        clear e1
        have r0 := (hbel.cell (by exact hb1)).trans (hG.out 0 _ rfl)
        have r1 := (hbel.cell (by exact hb1)).trans (hG.out 1 _ rfl)
        have r2 := (hbel.cell (by exact hb1)).trans (hG.out 2 _ rfl)
        have r3 := (hbel.cell (by exact hb1)).trans (hG.out 3 _ rfl)
        rw [Nat.add_zero] at r0
        clear hG
        try generalize (⟨x.name.toArray⟩ : ByteArray) = y0 at *
        try generalize x.ty.kind = y1 at *
        try generalize (⟨x.ty.name.toArray⟩ : ByteArray) = y2 at *
        try generalize x.stat = y3 at *
        change Hid ((l.take (k + 1)).all Pp.fldB = (Pp.freshB x.name && Pp.typeB x.ty)) at hstep
        change Hid ((Pp.freshB x.name && Pp.typeB x.ty) = false → l.all Pp.fldB = false) at hmem
        generalize (Pp.freshB x.name && Pp.typeB x.ty) = R at *
        have hlt' : (k : Int) < (len : Int) := by omega
        cases R with
        | false =>
          go_wp2_with fail
          refine (HC.out _ ((Below.refl _ _).alloc (Nat.le_refl _) _)).mono ?_
          rintro e wq ⟨rfl, hbq⟩
          have HQ := hide (hbel.trans ((((Below.refl _ _).alloc (Nat.le_refl _) _).trans (hbq.mono (by simp))).mono hbel.size))
          clear HC hbq
          go_wp2_with fail
          go_ret
          exact ⟨by rw [hmem.out trivial]; rfl, HQ.out⟩
        | true =>
          go_wp2_with fail
          refine (HC.out _ ((Below.refl _ _).alloc (Nat.le_refl _) _)).mono ?_
          rintro e wq ⟨rfl, hbq⟩
          have HQ := hide (hbel.trans ((((Below.refl _ _).alloc (Nat.le_refl _) _).trans (hbq.mono (by simp))).mono hbel.size))
          clear HC hbq
          go_wp2_with fail
          go_roundw
          case rel => exact ⟨k + 1, by omega, by go_num, HQ.out, hstep⟩
          case measure => simp [intOf]; omega
      · have hN : Hid (l.all Pp.fldB = true) := hide (by rw [← hal.out, List.take_of_length_le (by have := HL.out; omega)])
        go_wp2_with fail
        go_ret
        exact ⟨by rw [hN.out]; rfl, hbel⟩

set_option maxRecDepth 100000 in
set_option maxHeartbeats 4000000 in
theorem eachT_any (l : List Pp.Ty) (v : Value) (most : Nat) (hmost : most ≤ 1000) (w : World) (ht : TabS w) (h : RowX w 2 TyX v l) (hl : l.length ≤ maxLen) :
    Calls Tryd.prog 50 #[v, .int .i64 (most : Int), .func (.func 24) #[] #[]] w fun e w' => e = .returned (.bool (Pp.eachB l most Pp.typeB)) ∧ Below w.heap.size w w' := by
  obtain ⟨a, c, rfl, hc, hr⟩ := h
  have hC := hide (fun (x : Pp.Ty) (ys : List Value) (hx : TyX x ys) w' (hb : Below w.heap.size w w') => isType_any x hx.2 w' (ht.below hb))
  clear ht
  unfold maxLen at hl
  obtain ⟨len, hlen⟩ : ∃ len, len = l.length := ⟨_, rfl⟩
  have HL := hide hlen
  rw [← hlen] at hl hc ⊢
  clear hlen
  have HR := hide hr
  clear hr
  by_cases hm : most < len
  · have hR : Hid (Pp.eachB l most Pp.typeB = false) := hide (by unfold Pp.eachB; rw [← HL.out]; simp; omega)
    go_enter Tryd.func50, Tryd.ntmps50
    go_wp2_with fail
    go_ret
    exact ⟨by rw [hR.out]; rfl, Below.refl _ _⟩
  · have hR : Hid (Pp.eachB l most Pp.typeB = l.all Pp.typeB) := hide (by unfold Pp.eachB; rw [← HL.out]; simp; omega)
    rw [hR.out]
    clear hR
    go_enter Tryd.func50, Tryd.ntmps50
    go_wp2_with fail
    go_loopw [15] (fun i wr => ∃ k : Nat, k ≤ len ∧ i = .int .i64 k ∧ Below w.heap.size w wr ∧ Hid ((l.take k).all Pp.typeB = true)) (fun i _ => len - (intOf i).toNat)
    case atStart => exact ⟨0, Nat.zero_le _, rfl, Below.refl _ _, rfl⟩
    case round =>
      obtain ⟨k, hk, rfl, hbel, hal⟩ := hrel
      by_cases hlt : k < len
      · have hco : k < l.length := by rw [← HL.out]; exact hlt
        rcases HR.out with h0 | ⟨b, o, rfl, hb1, hc1⟩
        · rw [h0] at hco; simp at hco
        obtain ⟨x, hx⟩ : ∃ x, l[k]? = some x := ⟨l[k]'hco, List.getElem?_eq_getElem _⟩
        obtain ⟨ys, e1, g1⟩ := hc1 k x hx
        have hstep : Hid ((l.take (k + 1)).all Pp.typeB = Pp.typeB x) := hide (by
          rw [List.take_add_one, List.all_append, hal.out, hx]; simp)
        have hmem : Hid (Pp.typeB x = false → l.all Pp.typeB = false) := hide (fun h => by
          rw [List.all_eq_false]; exact ⟨x, List.mem_of_getElem? hx, by rw [h]; exact Bool.false_ne_true⟩)
        have hG := hide g1
        have HC := hide (fun wq (hq : Below wr.heap.size wr wq) => hC.out x ys e1 wq (hbel.trans (hq.mono hbel.size)))
        clear hc1 HR hx hco hal hC g1
        obtain rfl : ys = _ := e1.1
        clear e1
        have r0 := (hbel.cell (by exact hb1)).trans (hG.out 0 _ rfl)
        have r1 := (hbel.cell (by exact hb1)).trans (hG.out 1 _ rfl)
        rw [Nat.add_zero] at r0
        clear hG
        try generalize x.kind = y0 at *
        try generalize (⟨x.name.toArray⟩ : ByteArray) = y1 at *
        generalize Pp.typeB x = R at *
        have hlt' : (k : Int) < (len : Int) := by omega
        cases R with
        | false =>
          go_wp2_with fail
          refine (HC.out _ ((Below.refl _ _).alloc (Nat.le_refl _) _)).mono ?_
          rintro e wq ⟨rfl, hbq⟩
          have HQ := hide (hbel.trans ((((Below.refl _ _).alloc (Nat.le_refl _) _).trans (hbq.mono (by simp))).mono hbel.size))
          clear HC hbq
          go_wp2_with fail
          go_ret
          exact ⟨by rw [hmem.out trivial]; rfl, HQ.out⟩
        | true =>
          go_wp2_with fail
          refine (HC.out _ ((Below.refl _ _).alloc (Nat.le_refl _) _)).mono ?_
          rintro e wq ⟨rfl, hbq⟩
          have HQ := hide (hbel.trans ((((Below.refl _ _).alloc (Nat.le_refl _) _).trans (hbq.mono (by simp))).mono hbel.size))
          clear HC hbq
          go_wp2_with fail
          go_roundw
          case rel => exact ⟨k + 1, by omega, by go_num, HQ.out, hstep⟩
          case measure => simp [intOf]; omega
      · have hN : Hid (l.all Pp.typeB = true) := hide (by rw [← hal.out, List.take_of_length_le (by have := HL.out; omega)])
        go_wp2_with fail
        go_ret
        exact ⟨by rw [hN.out]; rfl, hbel⟩

end Go.Proofs.YtdgfidaopkcjoabDoor
