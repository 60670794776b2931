/- What the laws of this seat lean on: 3 texts. -/
import Derived.Test.YtbbbnciejmdpfabGreatDoorPkAp
import Derived.Test.YtbbbnciejmdpfabGreatDoorPkAq
set_option maxRecDepth 100000
set_option maxHeartbeats 64000000
set_option linter.unusedVariables false
set_option linter.unusedSimpArgs false
namespace Go.Proofs.YtbbbnciejmdpfabGreatDoor
open Go.RowKit
theorem eachS_any (l : List Pp.Bs) (v : Value) (most : Nat) (hmost : most <= 1000) (w : World) (ht : TabS w) (h : RowX w 1 StrX v l) (hl : l.length <= maxLen) :
 Calls Tryz.prog 87 #[v, .int .i64 (most : Int), .func (.func 85) #[] #[]] w fun e w' => e = .returned (.bool (Pp.eachB l most Pp.freshB)) /\ Below w.heap.size w w' := by
 obtain ⟨a, c, rfl, hc, hr⟩ := h; have hC := hide (fun (x : Pp.Bs) (ys : List Value) (hx : StrX x ys) w' (hb : Below w.heap.size w w') => fresh_any x hx.2 w' (ht.below hb)); clear ht; unfold maxLen at hl; obtain ⟨len, hlen⟩ : ∃ len, len = l.length := ⟨_, rfl⟩; have HL := hide hlen; rw [<- hlen] at hl hc ⊢; clear hlen; have HR := hide hr; clear hr; by_cases hm : most < len
 · have hR : Hid (Pp.eachB l most Pp.freshB = false) := hide (by unfold Pp.eachB; rw [<- HL.out]; simp; omega)
   go_enter Tryz.func87, Tryz.ntmps87; go_wp2_with fail; go_ret; exact ⟨by rw [hR.out]; rfl, Below.refl _ _⟩
 · have hR : Hid (Pp.eachB l most Pp.freshB = l.all Pp.freshB) := hide (by unfold Pp.eachB; rw [<- HL.out]; simp; omega)
   rw [hR.out]; clear hR; go_enter Tryz.func87, Tryz.ntmps87; go_wp2_with fail
   go_loopw [15] (fun i wr => ∃ k : Nat, k <= len /\ i = .int .i64 k /\ Below w.heap.size w wr /\ Hid ((l.take k).all Pp.freshB = true)) (fun i _ => len - (intOf i).toNat)
   case atStart => exact ⟨0, Nat.zero_le _, rfl, Below.refl _ _, rfl⟩
   case round =>
    obtain ⟨k, hk, rfl, hbel, hal⟩ := hrel; by_cases hlt : k < len
    · have hco : k < l.length := by rw [<- HL.out]; exact hlt
      rcases HR.out with h0 | ⟨b, o, rfl, hb1, hc1⟩
      · rw [h0] at hco; simp at hco
      obtain ⟨x, hx⟩ : ∃ x, l[k]? = some x := ⟨l[k]'hco, List.getElem?_eq_getElem _⟩; obtain ⟨ys, e1, g1⟩ := hc1 k x hx
      have hstep : Hid ((l.take (k + 1)).all Pp.freshB = Pp.freshB x) := hide (by
       rw [List.take_add_one, List.all_append, hal.out, hx]; simp)
      have hmem : Hid (Pp.freshB x = false -> l.all Pp.freshB = false) := hide (fun h => by
       rw [List.all_eq_false]; exact ⟨x, List.mem_of_getElem? hx, by rw [h]; exact Bool.false_ne_true⟩)
      have hG := hide g1; have HC := hide (fun wq (hq : Below wr.heap.size wr wq) => hC.out x ys e1 wq (hbel.trans (hq.mono hbel.size))); clear hc1 HR hx hco hal hC g1; obtain rfl : ys = _ := e1.1; have r0 := (hbel.cell (by exact hb1)).trans (hG.out 0 _ rfl)
      rw [Nat.add_zero] at r0; rw [Nat.mul_one] at r0; clear hG; generalize (⟨x.toArray⟩ : ByteArray) = S at *
      generalize Pp.freshB x = R at *
      have hlt' : (k : Int) < (len : Int) := by omega
      cases R with
      | false =>
        go_wp2_with fail; refine (HC.out _ (Below.refl _ _)).mono ?_; rintro e wq ⟨rfl, hwq⟩; subst hwq; go_wp2_with fail; go_ret; exact ⟨by rw [hmem.out trivial]; rfl, hbel⟩
      | true =>
        go_wp2_with fail; refine (HC.out _ (Below.refl _ _)).mono ?_; rintro e wq ⟨rfl, hwq⟩; subst hwq; go_wp2_with fail
        go_roundw
        case rel => exact ⟨k + 1, by omega, by go_num, hbel, hstep⟩
        case measure => simp [intOf]; omega
    · have hN : Hid (l.all Pp.freshB = true) := hide (by rw [<- hal.out, List.take_of_length_le (by have := HL.out; omega)])
      go_wp2_with fail; go_ret; exact ⟨by rw [hN.out]; rfl, hbel⟩
theorem eachF_any (l : List Pp.Fld) (v : Value) (most : Nat) (hmost : most <= 1000) (w : World) (ht : TabS w) (h : RowX w 4 FldX v l) (hl : l.length <= maxLen) :
 Calls Tryz.prog 88 #[v, .int .i64 (most : Int), .func (.func 89) #[] #[]] w fun e w' => e = .returned (.bool (Pp.eachB l most Pp.fldB)) /\ Below w.heap.size w w' := by
 obtain ⟨a, c, rfl, hc, hr⟩ := h; have hC := hide (fun (x : Pp.Fld) (ys : List Value) (hx : FldX x ys) w' (hb : Below w.heap.size w w') => isField_any x hx.2.1 hx.2.2 w' (ht.below hb)); clear ht; unfold maxLen at hl; obtain ⟨len, hlen⟩ : ∃ len, len = l.length := ⟨_, rfl⟩; have HL := hide hlen; rw [<- hlen] at hl hc ⊢; clear hlen; have HR := hide hr; clear hr; by_cases hm : most < len
 · have hR : Hid (Pp.eachB l most Pp.fldB = false) := hide (by unfold Pp.eachB; rw [<- HL.out]; simp; omega)
   go_enter Tryz.func88, Tryz.ntmps88; go_wp2_with fail; go_ret; exact ⟨by rw [hR.out]; rfl, Below.refl _ _⟩
 · have hR : Hid (Pp.eachB l most Pp.fldB = l.all Pp.fldB) := hide (by unfold Pp.eachB; rw [<- HL.out]; simp; omega)
   rw [hR.out]; clear hR; go_enter Tryz.func88, Tryz.ntmps88; go_wp2_with fail
   go_loopw [15] (fun i wr => ∃ k : Nat, k <= len /\ i = .int .i64 k /\ Below w.heap.size w wr /\ Hid ((l.take k).all Pp.fldB = true)) (fun i _ => len - (intOf i).toNat)
   case atStart => exact ⟨0, Nat.zero_le _, rfl, Below.refl _ _, rfl⟩
   case round =>
    obtain ⟨k, hk, rfl, hbel, hal⟩ := hrel; by_cases hlt : k < len
    · have hco : k < l.length := by rw [<- HL.out]; exact hlt
      rcases HR.out with h0 | ⟨b, o, rfl, hb1, hc1⟩
      · rw [h0] at hco; simp at hco
      obtain ⟨x, hx⟩ : ∃ x, l[k]? = some x := ⟨l[k]'hco, List.getElem?_eq_getElem _⟩; obtain ⟨ys, e1, g1⟩ := hc1 k x hx
      have hstep : Hid ((l.take (k + 1)).all Pp.fldB = Pp.fldB x) := hide (by
       rw [List.take_add_one, List.all_append, hal.out, hx]; simp)
      have hmem : Hid (Pp.fldB x = false -> l.all Pp.fldB = false) := hide (fun h => by
       rw [List.all_eq_false]; exact ⟨x, List.mem_of_getElem? hx, by rw [h]; exact Bool.false_ne_true⟩)
      have hG := hide g1; have HC := hide (fun wq (hq : Below wr.heap.size wr wq) => hC.out x ys e1 wq (hbel.trans (hq.mono hbel.size))); clear hc1 HR hx hco hal hC g1; obtain rfl : ys = _ := e1.1; clear e1; have r0 := (hbel.cell (by exact hb1)).trans (hG.out 0 _ rfl)
      have r1 := (hbel.cell (by exact hb1)).trans (hG.out 1 _ rfl)
      have r2 := (hbel.cell (by exact hb1)).trans (hG.out 2 _ rfl)
      have r3 := (hbel.cell (by exact hb1)).trans (hG.out 3 _ rfl)
      rw [Nat.add_zero] at r0; clear hG
      try generalize (⟨x.name.toArray⟩ : ByteArray) = y0 at *
      try generalize x.ty.kind = y1 at *
      try generalize (⟨x.ty.name.toArray⟩ : ByteArray) = y2 at *
      try generalize x.stat = y3 at *
      change Hid ((l.take (k + 1)).all Pp.fldB = (Pp.freshB x.name && Pp.typeB x.ty)) at hstep; change Hid ((Pp.freshB x.name && Pp.typeB x.ty) = false -> l.all Pp.fldB = false) at hmem; generalize (Pp.freshB x.name && Pp.typeB x.ty) = R at *
      have hlt' : (k : Int) < (len : Int) := by omega
      cases R with
      | false =>
        go_wp2_with fail; refine (HC.out _ ((Below.refl _ _).alloc (Nat.le_refl _) _)).mono ?_; rintro e wq ⟨rfl, hbq⟩; have HQ := hide (hbel.trans ((((Below.refl _ _).alloc (Nat.le_refl _) _).trans (hbq.mono (by simp))).mono hbel.size))
        clear HC hbq; go_wp2_with fail; go_ret; exact ⟨by rw [hmem.out trivial]; rfl, HQ.out⟩
      | true =>
        go_wp2_with fail; refine (HC.out _ ((Below.refl _ _).alloc (Nat.le_refl _) _)).mono ?_; rintro e wq ⟨rfl, hbq⟩; have HQ := hide (hbel.trans ((((Below.refl _ _).alloc (Nat.le_refl _) _).trans (hbq.mono (by simp))).mono hbel.size))
        clear HC hbq; go_wp2_with fail
        go_roundw
        case rel => exact ⟨k + 1, by omega, by go_num, HQ.out, hstep⟩
        case measure => simp [intOf]; omega
    · have hN : Hid (l.all Pp.fldB = true) := hide (by rw [<- hal.out, List.take_of_length_le (by have := HL.out; omega)])
      go_wp2_with fail; go_ret; exact ⟨by rw [hN.out]; rfl, hbel⟩
theorem eachT_any (l : List Pp.Ty) (v : Value) (most : Nat) (hmost : most <= 1000) (w : World) (ht : TabS w) (h : RowX w 2 TyX v l) (hl : l.length <= maxLen) :
 Calls Tryz.prog 104 #[v, .int .i64 (most : Int), .func (.func 103) #[] #[]] w fun e w' => e = .returned (.bool (Pp.eachB l most Pp.typeB)) /\ Below w.heap.size w w' := by
 obtain ⟨a, c, rfl, hc, hr⟩ := h; have hC := hide (fun (x : Pp.Ty) (ys : List Value) (hx : TyX x ys) w' (hb : Below w.heap.size w w') => isType_any x hx.2 w' (ht.below hb)); clear ht; unfold maxLen at hl; obtain ⟨len, hlen⟩ : ∃ len, len = l.length := ⟨_, rfl⟩; have HL := hide hlen; rw [<- hlen] at hl hc ⊢; clear hlen; have HR := hide hr; clear hr; by_cases hm : most < len
 · have hR : Hid (Pp.eachB l most Pp.typeB = false) := hide (by unfold Pp.eachB; rw [<- HL.out]; simp; omega)
   go_enter Tryz.func104, Tryz.ntmps104; go_wp2_with fail; go_ret; exact ⟨by rw [hR.out]; rfl, Below.refl _ _⟩
 · have hR : Hid (Pp.eachB l most Pp.typeB = l.all Pp.typeB) := hide (by unfold Pp.eachB; rw [<- HL.out]; simp; omega)
   rw [hR.out]; clear hR; go_enter Tryz.func104, Tryz.ntmps104; go_wp2_with fail
   go_loopw [15] (fun i wr => ∃ k : Nat, k <= len /\ i = .int .i64 k /\ Below w.heap.size w wr /\ Hid ((l.take k).all Pp.typeB = true)) (fun i _ => len - (intOf i).toNat)
   case atStart => exact ⟨0, Nat.zero_le _, rfl, Below.refl _ _, rfl⟩
   case round =>
    obtain ⟨k, hk, rfl, hbel, hal⟩ := hrel; by_cases hlt : k < len
    · have hco : k < l.length := by rw [<- HL.out]; exact hlt
      rcases HR.out with h0 | ⟨b, o, rfl, hb1, hc1⟩
      · rw [h0] at hco; simp at hco
      obtain ⟨x, hx⟩ : ∃ x, l[k]? = some x := ⟨l[k]'hco, List.getElem?_eq_getElem _⟩; obtain ⟨ys, e1, g1⟩ := hc1 k x hx
      have hstep : Hid ((l.take (k + 1)).all Pp.typeB = Pp.typeB x) := hide (by
       rw [List.take_add_one, List.all_append, hal.out, hx]; simp)
      have hmem : Hid (Pp.typeB x = false -> l.all Pp.typeB = false) := hide (fun h => by
       rw [List.all_eq_false]; exact ⟨x, List.mem_of_getElem? hx, by rw [h]; exact Bool.false_ne_true⟩)
      have hG := hide g1; have HC := hide (fun wq (hq : Below wr.heap.size wr wq) => hC.out x ys e1 wq (hbel.trans (hq.mono hbel.size))); clear hc1 HR hx hco hal hC g1; obtain rfl : ys = _ := e1.1; clear e1; have r0 := (hbel.cell (by exact hb1)).trans (hG.out 0 _ rfl)
      have r1 := (hbel.cell (by exact hb1)).trans (hG.out 1 _ rfl)
      rw [Nat.add_zero] at r0; clear hG
      try generalize x.kind = y0 at *
      try generalize (⟨x.name.toArray⟩ : ByteArray) = y1 at *
      generalize Pp.typeB x = R at *
      have hlt' : (k : Int) < (len : Int) := by omega
      cases R with
      | false =>
        go_wp2_with fail; refine (HC.out _ ((Below.refl _ _).alloc (Nat.le_refl _) _)).mono ?_; rintro e wq ⟨rfl, hbq⟩; have HQ := hide (hbel.trans ((((Below.refl _ _).alloc (Nat.le_refl _) _).trans (hbq.mono (by simp))).mono hbel.size))
        clear HC hbq; go_wp2_with fail; go_ret; exact ⟨by rw [hmem.out trivial]; rfl, HQ.out⟩
      | true =>
        go_wp2_with fail; refine (HC.out _ ((Below.refl _ _).alloc (Nat.le_refl _) _)).mono ?_; rintro e wq ⟨rfl, hbq⟩; have HQ := hide (hbel.trans ((((Below.refl _ _).alloc (Nat.le_refl _) _).trans (hbq.mono (by simp))).mono hbel.size))
        clear HC hbq; go_wp2_with fail
        go_roundw
        case rel => exact ⟨k + 1, by omega, by go_num, HQ.out, hstep⟩
        case measure => simp [intOf]; omega
    · have hN : Hid (l.all Pp.typeB = true) := hide (by rw [<- hal.out, List.take_of_length_le (by have := HL.out; omega)])
      go_wp2_with fail; go_ret; exact ⟨by rw [hN.out]; rfl, hbel⟩
theorem eachI_any (l : List Pp.XIns) (v : Value) (most : Nat) (hmost : most <= 1000) (w : World) (ht : TabS w) (h : RowX w 4 InsX v l) (hl : l.length <= maxLen) :
 Calls Tryz.prog 123 #[v, .int .i64 (most : Int), .func (.func 124) #[] #[]] w fun e w' => e = .returned (.bool (Pp.eachB l most Pp.insB)) /\ Below w.heap.size w w' := by
 obtain ⟨a, c, rfl, hc, hr⟩ := h; have hC := hide (fun (x : Pp.XIns) (ys : List Value) (hx : InsX x ys) w' (hb : Below w.heap.size w w') => isInstr_any x hx.2.1 hx.2.2 w' (ht.below hb)); clear ht; unfold maxLen at hl; obtain ⟨len, hlen⟩ : ∃ len, len = l.length := ⟨_, rfl⟩; have HL := hide hlen; rw [<- hlen] at hl hc ⊢; clear hlen; have HR := hide hr; clear hr; by_cases hm : most < len
 · have hR : Hid (Pp.eachB l most Pp.insB = false) := hide (by unfold Pp.eachB; rw [<- HL.out]; simp; omega)
   go_enter Tryz.func123, Tryz.ntmps123; go_wp2_with fail; go_ret; exact ⟨by rw [hR.out]; rfl, Below.refl _ _⟩
 · have hR : Hid (Pp.eachB l most Pp.insB = l.all Pp.insB) := hide (by unfold Pp.eachB; rw [<- HL.out]; simp; omega)
   rw [hR.out]; clear hR; go_enter Tryz.func123, Tryz.ntmps123; go_wp2_with fail
   go_loopw [15] (fun i wr => ∃ k : Nat, k <= len /\ i = .int .i64 k /\ Below w.heap.size w wr /\ Hid ((l.take k).all Pp.insB = true)) (fun i _ => len - (intOf i).toNat)
   case atStart => exact ⟨0, Nat.zero_le _, rfl, Below.refl _ _, rfl⟩
   case round =>
    obtain ⟨k, hk, rfl, hbel, hal⟩ := hrel; by_cases hlt : k < len
    · have hco : k < l.length := by rw [<- HL.out]; exact hlt
      rcases HR.out with h0 | ⟨b, o, rfl, hb1, hc1⟩
      · rw [h0] at hco; simp at hco
      obtain ⟨x, hx⟩ : ∃ x, l[k]? = some x := ⟨l[k]'hco, List.getElem?_eq_getElem _⟩; obtain ⟨ys, e1, g1⟩ := hc1 k x hx
      have hstep : Hid ((l.take (k + 1)).all Pp.insB = Pp.insB x) := hide (by
       rw [List.take_add_one, List.all_append, hal.out, hx]; simp)
      have hmem : Hid (Pp.insB x = false -> l.all Pp.insB = false) := hide (fun h => by
       rw [List.all_eq_false]; exact ⟨x, List.mem_of_getElem? hx, by rw [h]; exact Bool.false_ne_true⟩)
      have hG := hide g1; have HC := hide (fun wq (hq : Below wr.heap.size wr wq) => hC.out x ys e1 wq (hbel.trans (hq.mono hbel.size))); clear hc1 HR hx hco hal hC g1; obtain rfl : ys = _ := e1.1; clear e1; have r0 := (hbel.cell (by exact hb1)).trans (hG.out 0 _ rfl)
      have r1 := (hbel.cell (by exact hb1)).trans (hG.out 1 _ rfl)
      have r2 := (hbel.cell (by exact hb1)).trans (hG.out 2 _ rfl)
      have r3 := (hbel.cell (by exact hb1)).trans (hG.out 3 _ rfl)
      rw [Nat.add_zero] at r0; clear hG
      try generalize x.op = y0 at *
      try generalize x.n = y1 at *
      try generalize (⟨x.a.toArray⟩ : ByteArray) = y2 at *
      try generalize (⟨x.b.toArray⟩ : ByteArray) = y3 at *
      generalize Pp.insB x = R at *
      have hlt' : (k : Int) < (len : Int) := by omega
      cases R with
      | false =>
        go_wp2_with fail; refine (HC.out _ ((Below.refl _ _).alloc (Nat.le_refl _) _)).mono ?_; rintro e wq ⟨rfl, hbq⟩; have HQ := hide (hbel.trans ((((Below.refl _ _).alloc (Nat.le_refl _) _).trans (hbq.mono (by simp))).mono hbel.size))
        clear HC hbq; go_wp2_with fail; go_ret; exact ⟨by rw [hmem.out trivial]; rfl, HQ.out⟩
      | true =>
        go_wp2_with fail; refine (HC.out _ ((Below.refl _ _).alloc (Nat.le_refl _) _)).mono ?_; rintro e wq ⟨rfl, hbq⟩; have HQ := hide (hbel.trans ((((Below.refl _ _).alloc (Nat.le_refl _) _).trans (hbq.mono (by simp))).mono hbel.size))
        clear HC hbq; go_wp2_with fail
        go_roundw
        case rel => exact ⟨k + 1, by omega, by go_num, HQ.out, hstep⟩
        case measure => simp [intOf]; omega
    · have hN : Hid (l.all Pp.insB = true) := hide (by rw [<- hal.out, List.take_of_length_le (by have := HL.out; omega)])
      go_wp2_with fail; go_ret; exact ⟨by rw [hN.out]; rfl, hbel⟩
theorem eachC_any (l : List Pp.Ctc) (v : Value) (most : Nat) (hmost : most <= 1000) (w : World) (ht : TabS w) (h : RowX w 4 CtcX v l) (hl : l.length <= maxLen) :
 Calls Tryz.prog 125 #[v, .int .i64 (most : Int), .func (.func 126) #[] #[]] w fun e w' => e = .returned (.bool (Pp.eachB l most Pp.ctcB)) /\ Below w.heap.size w w' := by
 obtain ⟨a, c, rfl, hc, hr⟩ := h; have hC := hide (fun (x : Pp.Ctc) (ys : List Value) (hx : CtcX x ys) w' (hb : Below w.heap.size w w') => isCatch_any x hx.2 w' (ht.below hb)); clear ht; unfold maxLen at hl; obtain ⟨len, hlen⟩ : ∃ len, len = l.length := ⟨_, rfl⟩; have HL := hide hlen; rw [<- hlen] at hl hc ⊢; clear hlen; have HR := hide hr; clear hr; by_cases hm : most < len
 · have hR : Hid (Pp.eachB l most Pp.ctcB = false) := hide (by unfold Pp.eachB; rw [<- HL.out]; simp; omega)
   go_enter Tryz.func125, Tryz.ntmps125; go_wp2_with fail; go_ret; exact ⟨by rw [hR.out]; rfl, Below.refl _ _⟩
 · have hR : Hid (Pp.eachB l most Pp.ctcB = l.all Pp.ctcB) := hide (by unfold Pp.eachB; rw [<- HL.out]; simp; omega)
   rw [hR.out]; clear hR; go_enter Tryz.func125, Tryz.ntmps125; go_wp2_with fail
   go_loopw [15] (fun i wr => ∃ k : Nat, k <= len /\ i = .int .i64 k /\ Below w.heap.size w wr /\ Hid ((l.take k).all Pp.ctcB = true)) (fun i _ => len - (intOf i).toNat)
   case atStart => exact ⟨0, Nat.zero_le _, rfl, Below.refl _ _, rfl⟩
   case round =>
    obtain ⟨k, hk, rfl, hbel, hal⟩ := hrel; by_cases hlt : k < len
    · have hco : k < l.length := by rw [<- HL.out]; exact hlt
      rcases HR.out with h0 | ⟨b, o, rfl, hb1, hc1⟩
      · rw [h0] at hco; simp at hco
      obtain ⟨x, hx⟩ : ∃ x, l[k]? = some x := ⟨l[k]'hco, List.getElem?_eq_getElem _⟩; obtain ⟨ys, e1, g1⟩ := hc1 k x hx
      have hstep : Hid ((l.take (k + 1)).all Pp.ctcB = Pp.ctcB x) := hide (by
       rw [List.take_add_one, List.all_append, hal.out, hx]; simp)
      have hmem : Hid (Pp.ctcB x = false -> l.all Pp.ctcB = false) := hide (fun h => by
       rw [List.all_eq_false]; exact ⟨x, List.mem_of_getElem? hx, by rw [h]; exact Bool.false_ne_true⟩)
      have hG := hide g1; have HC := hide (fun wq (hq : Below wr.heap.size wr wq) => hC.out x ys e1 wq (hbel.trans (hq.mono hbel.size))); clear hc1 HR hx hco hal hC g1; obtain rfl : ys = _ := e1.1; clear e1; have r0 := (hbel.cell (by exact hb1)).trans (hG.out 0 _ rfl)
      have r1 := (hbel.cell (by exact hb1)).trans (hG.out 1 _ rfl)
      have r2 := (hbel.cell (by exact hb1)).trans (hG.out 2 _ rfl)
      have r3 := (hbel.cell (by exact hb1)).trans (hG.out 3 _ rfl)
      rw [Nat.add_zero] at r0; clear hG
      try generalize (⟨x.name.toArray⟩ : ByteArray) = y0 at *
      try generalize x.lo = y1 at *
      try generalize x.hi = y2 at *
      try generalize x.pc = y3 at *
      generalize Pp.ctcB x = R at *
      have hlt' : (k : Int) < (len : Int) := by omega
      cases R with
      | false =>
        go_wp2_with fail; refine (HC.out _ ((Below.refl _ _).alloc (Nat.le_refl _) _)).mono ?_; rintro e wq ⟨rfl, hbq⟩; have HQ := hide (hbel.trans ((((Below.refl _ _).alloc (Nat.le_refl _) _).trans (hbq.mono (by simp))).mono hbel.size))
        clear HC hbq; go_wp2_with fail; go_ret; exact ⟨by rw [hmem.out trivial]; rfl, HQ.out⟩
      | true =>
        go_wp2_with fail; refine (HC.out _ ((Below.refl _ _).alloc (Nat.le_refl _) _)).mono ?_; rintro e wq ⟨rfl, hbq⟩; have HQ := hide (hbel.trans ((((Below.refl _ _).alloc (Nat.le_refl _) _).trans (hbq.mono (by simp))).mono hbel.size))
        clear HC hbq; go_wp2_with fail
        go_roundw
        case rel => exact ⟨k + 1, by omega, by go_num, HQ.out, hstep⟩
        case measure => simp [intOf]; omega
    · have hN : Hid (l.all Pp.ctcB = true) := hide (by rw [<- hal.out, List.take_of_length_le (by have := HL.out; omega)])
      go_wp2_with fail; go_ret; exact ⟨by rw [hN.out]; rfl, hbel⟩
theorem isBody_any (m : Pp.XMth) (ys : List Value) (w : World) (ht : TabS w) (h : MthX w m ys) :
 Calls Tryz.prog 105 #[.agg ys.toArray] w fun e w' => e = .returned (.bool (Pp.bodyB m)) /\ Below w.heap.size w w' := by
 obtain ⟨vp, vc, vk, rfl, x1, x2, x3, x4⟩ := h; obtain ⟨n, st, ab, ps, rt, lo, co, ca⟩ := m; simp only at x1 x2 x3 x4; obtain ⟨y1, y2, y3, y4, y5⟩ := x4; have hC := hide (fun w' (hb : Below w.heap.size w w') => eachI_any co vc 48 (by omega) w' (ht.below hb) (x2.on hb fun _ _ h => h) y4)
 have hK := hide (fun w' (hb : Below w.heap.size w w') => eachC_any ca vk 4 (by omega) w' (ht.below hb) (x3.on hb fun _ _ h => h) y5)
 have hW := hide (fun w => within_any lo 0 8 w); obtain ⟨pa, pc, rfl, _⟩ := x1.len; obtain ⟨cq, cc, rfl, _⟩ := x2.len; obtain ⟨kq, kc, rfl, _⟩ := x3.len; clear x1 x2 x3 ht; simp only [mthXL, List.toArray]; generalize (⟨n.toArray⟩ : ByteArray) = S0 at *
 generalize (⟨rt.name.toArray⟩ : ByteArray) = S1 at *
 cases ab with
 | true =>
   have hR : Hid (Pp.bodyB ⟨n, st, true, ps, rt, lo, co, ca⟩ = (lo == 0 && (co.isEmpty && ca.isEmpty))) := rfl; generalize Pp.bodyB ⟨n, st, true, ps, rt, lo, co, ca⟩ = R at *
   have e1 : Hid (co.isEmpty = (((co.length : Nat) : Int) == 0)) := hide (by cases co <;> simp; omega)
   have e2 : Hid (ca.isEmpty = (((ca.length : Nat) : Int) == 0)) := hide (by cases ca <;> simp; omega)
   rw [e1.out, e2.out] at hR; clear hC hK hW e1 e2; generalize co.length = n1 at *
   generalize ca.length = n2 at *
   unfold maxLen at y4 y5; by_cases h1 : lo = 0
   · subst h1
     by_cases h2 : n1 = 0
     · subst h2
       go_enter Tryz.func105, Tryz.ntmps105; go_wp2_with fail; go_ret; exact ⟨by rw [hR.out]; simp, (Below.refl _ _).alloc (Nat.le_refl _) _⟩
     · have h2' : ((n1 : Int) == 0) = false := by simp; omega
       go_enter Tryz.func105, Tryz.ntmps105; go_wp2_with fail; go_ret; exact ⟨by rw [hR.out, h2']; rfl, (Below.refl _ _).alloc (Nat.le_refl _) _⟩
   · have h1' : (lo == 0) = false := by simpa using h1
     go_enter Tryz.func105, Tryz.ntmps105; go_wp2_with fail; go_ret; exact ⟨by rw [hR.out, h1']; rfl, (Below.refl _ _).alloc (Nat.le_refl _) _⟩
 | false =>
   have hR : Hid (Pp.bodyB ⟨n, st, false, ps, rt, lo, co, ca⟩ = (Pp.withinB lo 0 8 && (Pp.eachB co 48 Pp.insB && Pp.eachB ca 4 Pp.ctcB))) := rfl; generalize Pp.bodyB ⟨n, st, false, ps, rt, lo, co, ca⟩ = R at *
   generalize Pp.withinB lo 0 8 = b0 at *
   generalize Pp.eachB co 48 Pp.insB = b1 at *
   generalize Pp.eachB ca 4 Pp.ctcB = b2 at *
   generalize co.length = n1 at *
   generalize ca.length = n2 at *
   generalize ps.length = n3 at *
   go_enter Tryz.func105, Tryz.ntmps105; go_wp2_with fail; refine (hW.out _).mono ?_; rintro e wq ⟨rfl, hwq⟩; subst hwq; clear hW; cases b0 with
   | false =>
     go_wp2_with fail; go_ret; exact ⟨by rw [hR.out]; rfl, (Below.refl _ _).alloc (Nat.le_refl _) _⟩
   | true =>
     go_wp2_with fail; refine (hC.out _ ((Below.refl _ _).alloc (Nat.le_refl _) _)).mono ?_; rintro e w1 ⟨rfl, hb1⟩; obtain ⟨B1, HB, hsz⟩ := box_one hb1; have p8 : w1.cell? ⟨w.heap.size, 8, none⟩ = some (.slice kq n2 kc) := B1 8; have HB := hide HB; clear B1 hb1 hC; cases b1 with
     | false =>
       go_wp2_with fail; go_ret; exact ⟨by rw [hR.out]; rfl, HB.out⟩
     | true =>
       go_wp2_with fail; refine (hK.out _ HB.out).mono ?_; rintro e w2 ⟨rfl, hb2⟩; have HB2 := hide (HB.out.trans (hb2.mono HB.out.size)); clear hb2 hK p8; go_wp2_with fail; go_ret; exact ⟨by rw [hR.out]; simp, HB2.out⟩
theorem isMethod_any (m : Pp.XMth) (ys : List Value) (w : World) (ht : TabS w) (h : MthX w m ys) :
 Calls Tryz.prog 91 #[.agg ys.toArray] w fun e w' => e = .returned (.bool (Pp.mthB m)) /\ Below w.heap.size w w' := by
 have hBd := hide (fun w' (hb : Below w.heap.size w w') => isBody_any m ys w' (ht.below hb) (h.on hb)); obtain ⟨vp, vc, vk, rfl, x1, x2, x3, x4⟩ := h; obtain ⟨y1, y2, y3, y4, y5⟩ := x4; have hR : Hid (Pp.mthB m = (Pp.freshB m.name && (Pp.eachB m.params 4 Pp.typeB && (Pp.typeB m.ret && Pp.bodyB m)))) := rfl; generalize Pp.mthB m = R at *
 generalize Pp.bodyB m = b3 at *
 obtain ⟨n, st, ab, ps, rt, lo, co, ca⟩ := m; simp only at x1 x2 x3 y1 y2 y3 hR; have hF := hide (fun w' (hb : Below w.heap.size w w') => fresh_any n y1 w' (ht.below hb)); have hP := hide (fun w' (hb : Below w.heap.size w w') => eachT_any ps vp 4 (by omega) w' (ht.below hb) (x1.on hb fun _ _ h => h) y3)
 have hT := hide (fun w' (hb : Below w.heap.size w w') => isType_any rt y2 w' (ht.below hb)); obtain ⟨pa, pc, rfl, _⟩ := x1.len; obtain ⟨cq, cc, rfl, _⟩ := x2.len; obtain ⟨kq, kc, rfl, _⟩ := x3.len; clear x1 x2 x3 ht y1 y2 y3 y4 y5; simp only [mthXL, List.toArray] at hBd ⊢; generalize (⟨n.toArray⟩ : ByteArray) = S0 at *
 generalize (⟨rt.name.toArray⟩ : ByteArray) = S1 at *
 generalize Pp.freshB n = b0 at *
 generalize Pp.eachB ps 4 Pp.typeB = b1 at *
 generalize Pp.typeB rt = b2 at *
 generalize co.length = n1 at *
 generalize ca.length = n2 at *
 generalize ps.length = n3 at *
 generalize rt.kind = rk at *
 go_enter Tryz.func91, Tryz.ntmps91; go_wp2_with fail; refine (hF.out _ ((Below.refl _ _).alloc (Nat.le_refl _) _)).mono ?_; rintro e wq ⟨rfl, hwq⟩; subst hwq; clear hF; cases b0 with
 | false =>
   go_wp2_with fail; go_ret; exact ⟨by rw [hR.out]; rfl, (Below.refl _ _).alloc (Nat.le_refl _) _⟩
 | true =>
   go_wp2_with fail; refine (hP.out _ ((Below.refl _ _).alloc (Nat.le_refl _) _)).mono ?_; rintro e w1 ⟨rfl, hb1⟩; obtain ⟨B1, HB, hsz⟩ := box_one hb1; have HB := hide HB; have HX := hide B1; clear B1 hb1 hP; cases b1 with
   | false =>
     go_wp2_with fail; go_ret; exact ⟨by rw [hR.out]; rfl, HB.out⟩
   | true =>
     have p4 : w1.cell? ⟨w.heap.size, 4, none⟩ = some (.int .i64 rk) := HX.out 4; have p5 : w1.cell? ⟨w.heap.size, 5, none⟩ = some (.string S1) := HX.out 5; go_wp2_with fail; refine (hT.out _ HB.out).mono ?_; rintro e w2 ⟨rfl, hb2⟩; have HB2 := hide (HB.out.trans (hb2.mono HB.out.size)); have HX2 := hide (fun k => (hb2.cell (p := ⟨w.heap.size, k, none⟩) (by exact hsz)).trans (HX.out k))
     clear hb2 hT p4 p5 HX; cases b2 with
     | false =>
       go_wp2_with fail; go_ret; exact ⟨by rw [hR.out]; rfl, HB2.out⟩
     | true =>
       have p0 : w2.cell? ⟨w.heap.size, 0, none⟩ = some (.string S0) := HX2.out 0; have p1 : w2.cell? ⟨w.heap.size, 1, none⟩ = some (.bool st) := HX2.out 1; have p2 : w2.cell? ⟨w.heap.size, 2, none⟩ = some (.bool ab) := HX2.out 2; have p3 : w2.cell? ⟨w.heap.size, 3, none⟩ = some (.slice pa n3 pc) := HX2.out 3; have p4 : w2.cell? ⟨w.heap.size, 4, none⟩ = some (.int .i64 rk) := HX2.out 4; have p5 : w2.cell? ⟨w.heap.size, 5, none⟩ = some (.string S1) := HX2.out 5; have p6 : w2.cell? ⟨w.heap.size, 6, none⟩ = some (.int .i64 lo) := HX2.out 6; have p7 : w2.cell? ⟨w.heap.size, 7, none⟩ = some (.slice cq n1 cc) := HX2.out 7; have p8 : w2.cell? ⟨w.heap.size, 8, none⟩ = some (.slice kq n2 kc) := HX2.out 8; clear HX2; go_wp2_with fail; refine (hBd.out _ HB2.out).mono ?_; rintro e w3 ⟨rfl, hb3⟩; have HB3 := hide (HB2.out.trans (hb3.mono HB2.out.size)); clear hb3 hBd p0 p1 p2 p3 p4 p5 p6 p7 p8; go_wp2_with fail; go_ret; exact ⟨by rw [hR.out]; simp, HB3.out⟩
end Go.Proofs.YtbbbnciejmdpfabGreatDoor
