/- What the laws of this seat lean on: 7 texts. -/
import Derived.Test.YtjlappamkfjlkabGreatDoorPkAg
set_option maxRecDepth 100000
set_option maxHeartbeats 64000000
set_option linter.unusedVariables false
set_option linter.unusedSimpArgs false
namespace Go.Proofs.YtjlappamkfjlkabGreatDoor
open Go.RowKit
theorem isCatch_any (c : Pp.Ctc) (h1 : c.name.length <= maxLen) (w : World) (ht : TabS w) :
 Calls Tryz.prog 113 #[.agg #[.string ⟨c.name.toArray⟩, .int .i64 c.lo, .int .i64 c.hi, .int .i64 c.pc]] w fun e w' => e = .returned (.bool (Pp.ctcB c)) /\ Below w.heap.size w w' := by
 obtain ⟨n, lo, hi, pc⟩ := c; simp only at h1 ⊢; have hF := hide (fun w' (hb : Below w.heap.size w w') => fresh_any n h1 w' (ht.below hb)); clear ht h1; have hR : Hid (Pp.ctcB ⟨n, lo, hi, pc⟩ = (Pp.freshB n && (Pp.withinB lo 0 48 && (Pp.withinB hi 0 48 && Pp.withinB pc 0 48)))) := rfl; have hW := hide (fun (n lo hi : Int) w => within_any n lo hi w); generalize (⟨n.toArray⟩ : ByteArray) = S at *
 generalize Pp.freshB n = b0 at *
 generalize Pp.ctcB ⟨n, lo, hi, pc⟩ = R at *
 have W1 := hide (fun w => within_any lo 0 48 w); have W2 := hide (fun w => within_any hi 0 48 w); have W3 := hide (fun w => within_any pc 0 48 w); generalize Pp.withinB lo 0 48 = b1 at *
 generalize Pp.withinB hi 0 48 = b2 at *
 generalize Pp.withinB pc 0 48 = b3 at *
 clear hW; go_enter Tryz.func113, Tryz.ntmps113; go_wp2_with fail; refine (hF.out _ ((Below.refl _ _).alloc (Nat.le_refl _) _)).mono ?_; rintro e wq ⟨rfl, hwq⟩; subst hwq; clear hF; cases b0 with
 | false =>
   go_wp2_with fail; go_ret; exact ⟨by rw [hR.out]; rfl, (Below.refl _ _).alloc (Nat.le_refl _) _⟩
 | true =>
   go_wp2_with fail; refine (W1.out _).mono ?_; rintro e wq ⟨rfl, hwq⟩; subst hwq; cases b1 with
   | false =>
     go_wp2_with fail; go_ret; exact ⟨by rw [hR.out]; rfl, (Below.refl _ _).alloc (Nat.le_refl _) _⟩
   | true =>
     go_wp2_with fail; refine (W2.out _).mono ?_; rintro e wq ⟨rfl, hwq⟩; subst hwq; cases b2 with
     | false =>
       go_wp2_with fail; go_ret; exact ⟨by rw [hR.out]; rfl, (Below.refl _ _).alloc (Nat.le_refl _) _⟩
     | true =>
       go_wp2_with fail; refine (W3.out _).mono ?_; rintro e wq ⟨rfl, hwq⟩; subst hwq; go_wp2_with fail; go_ret; exact ⟨by rw [hR.out]; simp, (Below.refl _ _).alloc (Nat.le_refl _) _⟩
theorem argsOf_any (op : Int) (w : World) :
 Calls Tryz.prog 121 #[.int .i64 op] w fun e w' => e = .returned (.agg #[.bool (Pp.argsX op).1, .int .i64 (Pp.argsX op).2.1, .int .i64 (Pp.argsX op).2.2.1, .int .i64 (Pp.argsX op).2.2.2]) /\ Below w.heap.size w w' := by
 by_cases h : op < 0 \/ 44 <= op
 · exact argsOf_out op h w
 · exact argsOf_in op (by omega) (by omega) w
theorem sh_nonempty (l : List UInt8) (h : l ≠ []) : (⟨l.toArray⟩ : ByteArray).toList.isEmpty = false := by
 rw [ByteArray.toList_eq]; simpa using h
def wordL (op : Int) : List UInt8 := if 0 <= op /\ op < 44 then Pp.opWords.getD op.toNat [] else []
theorem wordL_ne : ∀ k : Nat, k < 44 -> Pp.opWords.getD k [] ≠ [] := by decide +kernel
theorem Word_any (op : Int) (w : World) (ht : TabS w) :
 Calls Tryz.prog 122 #[.int .i64 op] w fun e w' => e = .returned (.string ⟨(wordL op).toArray⟩) /\ w' = w := by
 by_cases h : 0 <= op /\ op < 44
 · obtain ⟨k, rfl⟩ := Int.eq_ofNat_of_zero_le h.1
   rw [wordL, if_pos h]; exact Word_in k (by omega) w ht
 · rw [wordL, if_neg h]
   exact Word_out op (by omega) w
theorem isInstr_any (x : Pp.XIns) (h1 : x.a.length <= maxLen) (h2 : x.b.length <= maxLen) (w : World) (ht : TabS w) :
 Calls Tryz.prog 111 #[.agg #[.int .i64 x.op, .int .i64 x.n, .string ⟨x.a.toArray⟩, .string ⟨x.b.toArray⟩]] w fun e w' => e = .returned (.bool (Pp.insB x)) /\ Below w.heap.size w w' := by
 obtain ⟨op, n, a, b⟩ := x; simp only at h1 h2 ⊢; have hO := hide (fun w => argsOf_any op w); have hR : Hid (Pp.insB ⟨op, n, a, b⟩ = ((decide (0 <= op) && decide (op < 44)) && (Pp.withinB n (Pp.argsX op).2.1 (Pp.argsX op).2.2.1 && (Pp.argB a (decide (1 <= (Pp.argsX op).2.2.2)) && Pp.argB b (decide (2 <= (Pp.argsX op).2.2.2)))))) := rfl; have hWd := hide (fun w' (hb : Below w.heap.size w w') => Word_any op w' (ht.below hb))
 have hE : Hid ((wordL op = []) ↔ (decide (0 <= op) && decide (op < 44)) = false) := by
  refine hide ?_; unfold wordL; by_cases h : 0 <= op /\ op < 44
  · rw [if_pos h]
    constructor
    · intro e; exact absurd e (wordL_ne _ (by omega))
    · intro e; simp at e; omega
  · rw [if_neg h]; simp; omega
 generalize Pp.argsX op = ax at *
 obtain ⟨q0, lo, hi, nn⟩ := ax; simp only at hO hR; have hA1 := hide (fun w' (hb : Below w.heap.size w w') => isArgument_any a (decide (1 <= nn)) h1 w' (ht.below hb)); have hA2 := hide (fun w' (hb : Below w.heap.size w w') => isArgument_any b (decide (2 <= nn)) h2 w' (ht.below hb)); have hW := hide (fun w => within_any n lo hi w); clear ht h1 h2; generalize hWL : wordL op = WL at *
 clear hWL; generalize Pp.insB ⟨op, n, a, b⟩ = R at *
 change Hid (R = (_ && (_ && ((if decide (1 <= nn) = true then Pp.freshB a else a == []) && (if decide (2 <= nn) = true then Pp.freshB b else b == []))))) at hR
 generalize (if decide (1 <= nn) = true then Pp.freshB a else a == []) = b1 at *
 generalize (if decide (2 <= nn) = true then Pp.freshB b else b == []) = b2 at *
 generalize Pp.withinB n lo hi = b0 at *
 generalize (decide (0 <= op) && decide (op < 44)) = bw at *
 generalize (⟨a.toArray⟩ : ByteArray) = S1 at *
 generalize (⟨b.toArray⟩ : ByteArray) = S2 at *
 go_enter Tryz.func111, Tryz.ntmps111; go_wp2_with fail; refine (hO.out _).mono ?_; rintro e w1 ⟨rfl, hb1⟩; obtain ⟨B1, HB, hsz⟩ := box_one hb1; have p0 : w1.cell? ⟨w.heap.size, 0, none⟩ = some (.int .i64 op) := B1 0; have p1 : w1.cell? ⟨w.heap.size, 1, none⟩ = some (.int .i64 n) := B1 1; have p2 : w1.cell? ⟨w.heap.size, 2, none⟩ = some (.string S1) := B1 2; have p3 : w1.cell? ⟨w.heap.size, 3, none⟩ = some (.string S2) := B1 3; have HB := hide HB; clear B1 hb1 hO; go_wp2_with fail; have HB2 := hide (fun (o : Obj) => HB.out.alloc (w := w1) HB.out.size o); clear HB; refine (hWd.out _ (HB2.out _)).mono ?_; rintro e wq ⟨rfl, hwq⟩; subst hwq; clear hWd; cases bw with
 | false =>
   have hWL : WL = [] := hE.out.2 rfl; subst hWL; go_wp2_with fail; go_ret; exact ⟨by rw [hR.out]; rfl, HB2.out _⟩
 | true =>
   have hWL : ¬ WL = [] := fun e => by have := hE.out.1 e; cases this
   have hne : (⟨WL.toArray⟩ : ByteArray).toList.isEmpty = false := sh_nonempty WL hWL; generalize (⟨WL.toArray⟩ : ByteArray) = SW at *
   clear hE hWL; go_wp2_with fail; refine (hW.out _).mono ?_; rintro e wq ⟨rfl, hwq⟩; subst hwq; clear hW; cases b0 with
   | false =>
     go_wp2_with fail; go_ret; exact ⟨by rw [hR.out]; rfl, HB2.out _⟩
   | true =>
     go_wp2_with fail; refine (hA1.out _ (HB2.out _)).mono ?_; rintro e wq ⟨rfl, hwq⟩; subst hwq; clear hA1; cases b1 with
     | false =>
       go_wp2_with fail; go_ret; exact ⟨by rw [hR.out]; rfl, HB2.out _⟩
     | true =>
       go_wp2_with fail; refine (hA2.out _ (HB2.out _)).mono ?_; rintro e wq ⟨rfl, hwq⟩; subst hwq; clear hA2; go_wp2_with fail; go_ret; exact ⟨by rw [hR.out]; simp, HB2.out _⟩
theorem eachS_any (l : List Pp.Bs) (v : Value) (most : Nat) (hmost : most <= 1000) (w : World) (ht : TabS w) (h : RowX w 1 StrX v l) (hl : l.length <= maxLen) :
 Calls Tryz.prog 76 #[v, .int .i64 (most : Int), .func (.func 74) #[] #[]] w fun e w' => e = .returned (.bool (Pp.eachB l most Pp.freshB)) /\ Below w.heap.size w w' := by
 obtain ⟨a, c, rfl, hc, hr⟩ := h; have hC := hide (fun (x : Pp.Bs) (ys : List Value) (hx : StrX x ys) w' (hb : Below w.heap.size w w') => fresh_any x hx.2 w' (ht.below hb)); clear ht; unfold maxLen at hl; obtain ⟨len, hlen⟩ : ∃ len, len = l.length := ⟨_, rfl⟩; have HL := hide hlen; rw [<- hlen] at hl hc ⊢; clear hlen; have HR := hide hr; clear hr; by_cases hm : most < len
 · have hR : Hid (Pp.eachB l most Pp.freshB = false) := hide (by unfold Pp.eachB; rw [<- HL.out]; simp; omega)
   go_enter Tryz.func76, Tryz.ntmps76; go_wp2_with fail; go_ret; exact ⟨by rw [hR.out]; rfl, Below.refl _ _⟩
 · have hR : Hid (Pp.eachB l most Pp.freshB = l.all Pp.freshB) := hide (by unfold Pp.eachB; rw [<- HL.out]; simp; omega)
   rw [hR.out]; clear hR; go_enter Tryz.func76, Tryz.ntmps76; go_wp2_with fail
   go_loopw [15] (fun i wr => ∃ k : Nat, k <= len /\ i = .int .i64 k /\ Below w.heap.size w wr /\ Hid ((l.take k).all Pp.freshB = true)) (fun i _ => len - (intOf i).toNat)
   case atStart => exact ⟨0, Nat.zero_le _, rfl, Below.refl _ _, rfl⟩
   case round =>
    obtain ⟨k, hk, rfl, hbel, hal⟩ := hrel; by_cases hlt : k < len
    · have hco : k < l.length := by rw [<- HL.out]; exact hlt
      rcases HR.out with h0 | ⟨b, o, rfl, hb1, hc1⟩
      · rw [h0] at hco; simp at hco
      obtain ⟨x, hx⟩ : ∃ x, l[k]? = some x := ⟨l[k]'hco, List.getElem?_eq_getElem _⟩; obtain ⟨ys, e1, g1⟩ := hc1 k x hx
      have hstep : Hid ((l.take (k + 1)).all Pp.freshB = Pp.freshB x) := hide (by
       rw [List.take_add_one, List.all_append, hal.out, hx]; simp)
      have hmem : Hid (Pp.freshB x = false -> l.all Pp.freshB = false) := hide (fun h => by
       rw [List.all_eq_false]; exact ⟨x, List.mem_of_getElem? hx, by rw [h]; exact Bool.false_ne_true⟩)
      have hG := hide g1; have HC := hide (fun wq (hq : Below wr.heap.size wr wq) => hC.out x ys e1 wq (hbel.trans (hq.mono hbel.size))); clear hc1 HR hx hco hal hC g1; obtain rfl : ys = _ := e1.1; have r0 := (hbel.cell (by exact hb1)).trans (hG.out 0 _ rfl)
      rw [Nat.add_zero] at r0; rw [Nat.mul_one] at r0; clear hG; generalize (⟨x.toArray⟩ : ByteArray) = S at *
      generalize Pp.freshB x = R at *
      have hlt' : (k : Int) < (len : Int) := by omega
      cases R with
      | false =>
        go_wp2_with fail; refine (HC.out _ (Below.refl _ _)).mono ?_; rintro e wq ⟨rfl, hwq⟩; subst hwq; go_wp2_with fail; go_ret; exact ⟨by rw [hmem.out trivial]; rfl, hbel⟩
      | true =>
        go_wp2_with fail; refine (HC.out _ (Below.refl _ _)).mono ?_; rintro e wq ⟨rfl, hwq⟩; subst hwq; go_wp2_with fail
        go_roundw
        case rel => exact ⟨k + 1, by omega, by go_num, hbel, hstep⟩
        case measure => simp [intOf]; omega
    · have hN : Hid (l.all Pp.freshB = true) := hide (by rw [<- hal.out, List.take_of_length_le (by have := HL.out; omega)])
      go_wp2_with fail; go_ret; exact ⟨by rw [hN.out]; rfl, hbel⟩
theorem eachF_any (l : List Pp.Fld) (v : Value) (most : Nat) (hmost : most <= 1000) (w : World) (ht : TabS w) (h : RowX w 4 FldX v l) (hl : l.length <= maxLen) :
 Calls Tryz.prog 77 #[v, .int .i64 (most : Int), .func (.func 78) #[] #[]] w fun e w' => e = .returned (.bool (Pp.eachB l most Pp.fldB)) /\ Below w.heap.size w w' := by
 obtain ⟨a, c, rfl, hc, hr⟩ := h; have hC := hide (fun (x : Pp.Fld) (ys : List Value) (hx : FldX x ys) w' (hb : Below w.heap.size w w') => isField_any x hx.2.1 hx.2.2 w' (ht.below hb)); clear ht; unfold maxLen at hl; obtain ⟨len, hlen⟩ : ∃ len, len = l.length := ⟨_, rfl⟩; have HL := hide hlen; rw [<- hlen] at hl hc ⊢; clear hlen; have HR := hide hr; clear hr; by_cases hm : most < len
 · have hR : Hid (Pp.eachB l most Pp.fldB = false) := hide (by unfold Pp.eachB; rw [<- HL.out]; simp; omega)
   go_enter Tryz.func77, Tryz.ntmps77; go_wp2_with fail; go_ret; exact ⟨by rw [hR.out]; rfl, Below.refl _ _⟩
 · have hR : Hid (Pp.eachB l most Pp.fldB = l.all Pp.fldB) := hide (by unfold Pp.eachB; rw [<- HL.out]; simp; omega)
   rw [hR.out]; clear hR; go_enter Tryz.func77, Tryz.ntmps77; go_wp2_with fail
   go_loopw [15] (fun i wr => ∃ k : Nat, k <= len /\ i = .int .i64 k /\ Below w.heap.size w wr /\ Hid ((l.take k).all Pp.fldB = true)) (fun i _ => len - (intOf i).toNat)
   case atStart => exact ⟨0, Nat.zero_le _, rfl, Below.refl _ _, rfl⟩
   case round =>
    obtain ⟨k, hk, rfl, hbel, hal⟩ := hrel; by_cases hlt : k < len
    · have hco : k < l.length := by rw [<- HL.out]; exact hlt
      rcases HR.out with h0 | ⟨b, o, rfl, hb1, hc1⟩
      · rw [h0] at hco; simp at hco
      obtain ⟨x, hx⟩ : ∃ x, l[k]? = some x := ⟨l[k]'hco, List.getElem?_eq_getElem _⟩; obtain ⟨ys, e1, g1⟩ := hc1 k x hx
      have hstep : Hid ((l.take (k + 1)).all Pp.fldB = Pp.fldB x) := hide (by
       rw [List.take_add_one, List.all_append, hal.out, hx]; simp)
      have hmem : Hid (Pp.fldB x = false -> l.all Pp.fldB = false) := hide (fun h => by
       rw [List.all_eq_false]; exact ⟨x, List.mem_of_getElem? hx, by rw [h]; exact Bool.false_ne_true⟩)
      have hG := hide g1; have HC := hide (fun wq (hq : Below wr.heap.size wr wq) => hC.out x ys e1 wq (hbel.trans (hq.mono hbel.size))); clear hc1 HR hx hco hal hC g1; obtain rfl : ys = _ := e1.1; clear e1; have r0 := (hbel.cell (by exact hb1)).trans (hG.out 0 _ rfl)
      have r1 := (hbel.cell (by exact hb1)).trans (hG.out 1 _ rfl)
      have r2 := (hbel.cell (by exact hb1)).trans (hG.out 2 _ rfl)
      have r3 := (hbel.cell (by exact hb1)).trans (hG.out 3 _ rfl)
      rw [Nat.add_zero] at r0; clear hG
      try generalize (⟨x.name.toArray⟩ : ByteArray) = y0 at *
      try generalize x.ty.kind = y1 at *
      try generalize (⟨x.ty.name.toArray⟩ : ByteArray) = y2 at *
      try generalize x.stat = y3 at *
      change Hid ((l.take (k + 1)).all Pp.fldB = (Pp.freshB x.name && Pp.typeB x.ty)) at hstep; change Hid ((Pp.freshB x.name && Pp.typeB x.ty) = false -> l.all Pp.fldB = false) at hmem; generalize (Pp.freshB x.name && Pp.typeB x.ty) = R at *
      have hlt' : (k : Int) < (len : Int) := by omega
      cases R with
      | false =>
        go_wp2_with fail; refine (HC.out _ ((Below.refl _ _).alloc (Nat.le_refl _) _)).mono ?_; rintro e wq ⟨rfl, hbq⟩; have HQ := hide (hbel.trans ((((Below.refl _ _).alloc (Nat.le_refl _) _).trans (hbq.mono (by simp))).mono hbel.size))
        clear HC hbq; go_wp2_with fail; go_ret; exact ⟨by rw [hmem.out trivial]; rfl, HQ.out⟩
      | true =>
        go_wp2_with fail; refine (HC.out _ ((Below.refl _ _).alloc (Nat.le_refl _) _)).mono ?_; rintro e wq ⟨rfl, hbq⟩; have HQ := hide (hbel.trans ((((Below.refl _ _).alloc (Nat.le_refl _) _).trans (hbq.mono (by simp))).mono hbel.size))
        clear HC hbq; go_wp2_with fail
        go_roundw
        case rel => exact ⟨k + 1, by omega, by go_num, HQ.out, hstep⟩
        case measure => simp [intOf]; omega
    · have hN : Hid (l.all Pp.fldB = true) := hide (by rw [<- hal.out, List.take_of_length_le (by have := HL.out; omega)])
      go_wp2_with fail; go_ret; exact ⟨by rw [hN.out]; rfl, hbel⟩
theorem eachT_any (l : List Pp.Ty) (v : Value) (most : Nat) (hmost : most <= 1000) (w : World) (ht : TabS w) (h : RowX w 2 TyX v l) (hl : l.length <= maxLen) :
 Calls Tryz.prog 95 #[v, .int .i64 (most : Int), .func (.func 94) #[] #[]] w fun e w' => e = .returned (.bool (Pp.eachB l most Pp.typeB)) /\ Below w.heap.size w w' := by
 obtain ⟨a, c, rfl, hc, hr⟩ := h; have hC := hide (fun (x : Pp.Ty) (ys : List Value) (hx : TyX x ys) w' (hb : Below w.heap.size w w') => isType_any x hx.2 w' (ht.below hb)); clear ht; unfold maxLen at hl; obtain ⟨len, hlen⟩ : ∃ len, len = l.length := ⟨_, rfl⟩; have HL := hide hlen; rw [<- hlen] at hl hc ⊢; clear hlen; have HR := hide hr; clear hr; by_cases hm : most < len
 · have hR : Hid (Pp.eachB l most Pp.typeB = false) := hide (by unfold Pp.eachB; rw [<- HL.out]; simp; omega)
   go_enter Tryz.func95, Tryz.ntmps95; go_wp2_with fail; go_ret; exact ⟨by rw [hR.out]; rfl, Below.refl _ _⟩
 · have hR : Hid (Pp.eachB l most Pp.typeB = l.all Pp.typeB) := hide (by unfold Pp.eachB; rw [<- HL.out]; simp; omega)
   rw [hR.out]; clear hR; go_enter Tryz.func95, Tryz.ntmps95; go_wp2_with fail
   go_loopw [15] (fun i wr => ∃ k : Nat, k <= len /\ i = .int .i64 k /\ Below w.heap.size w wr /\ Hid ((l.take k).all Pp.typeB = true)) (fun i _ => len - (intOf i).toNat)
   case atStart => exact ⟨0, Nat.zero_le _, rfl, Below.refl _ _, rfl⟩
   case round =>
    obtain ⟨k, hk, rfl, hbel, hal⟩ := hrel; by_cases hlt : k < len
    · have hco : k < l.length := by rw [<- HL.out]; exact hlt
      rcases HR.out with h0 | ⟨b, o, rfl, hb1, hc1⟩
      · rw [h0] at hco; simp at hco
      obtain ⟨x, hx⟩ : ∃ x, l[k]? = some x := ⟨l[k]'hco, List.getElem?_eq_getElem _⟩; obtain ⟨ys, e1, g1⟩ := hc1 k x hx
      have hstep : Hid ((l.take (k + 1)).all Pp.typeB = Pp.typeB x) := hide (by
       rw [List.take_add_one, List.all_append, hal.out, hx]; simp)
      have hmem : Hid (Pp.typeB x = false -> l.all Pp.typeB = false) := hide (fun h => by
       rw [List.all_eq_false]; exact ⟨x, List.mem_of_getElem? hx, by rw [h]; exact Bool.false_ne_true⟩)
      have hG := hide g1; have HC := hide (fun wq (hq : Below wr.heap.size wr wq) => hC.out x ys e1 wq (hbel.trans (hq.mono hbel.size))); clear hc1 HR hx hco hal hC g1; obtain rfl : ys = _ := e1.1; clear e1; have r0 := (hbel.cell (by exact hb1)).trans (hG.out 0 _ rfl)
      have r1 := (hbel.cell (by exact hb1)).trans (hG.out 1 _ rfl)
      rw [Nat.add_zero] at r0; clear hG
      try generalize x.kind = y0 at *
      try generalize (⟨x.name.toArray⟩ : ByteArray) = y1 at *
      generalize Pp.typeB x = R at *
      have hlt' : (k : Int) < (len : Int) := by omega
      cases R with
      | false =>
        go_wp2_with fail; refine (HC.out _ ((Below.refl _ _).alloc (Nat.le_refl _) _)).mono ?_; rintro e wq ⟨rfl, hbq⟩; have HQ := hide (hbel.trans ((((Below.refl _ _).alloc (Nat.le_refl _) _).trans (hbq.mono (by simp))).mono hbel.size))
        clear HC hbq; go_wp2_with fail; go_ret; exact ⟨by rw [hmem.out trivial]; rfl, HQ.out⟩
      | true =>
        go_wp2_with fail; refine (HC.out _ ((Below.refl _ _).alloc (Nat.le_refl _) _)).mono ?_; rintro e wq ⟨rfl, hbq⟩; have HQ := hide (hbel.trans ((((Below.refl _ _).alloc (Nat.le_refl _) _).trans (hbq.mono (by simp))).mono hbel.size))
        clear HC hbq; go_wp2_with fail
        go_roundw
        case rel => exact ⟨k + 1, by omega, by go_num, HQ.out, hstep⟩
        case measure => simp [intOf]; omega
    · have hN : Hid (l.all Pp.typeB = true) := hide (by rw [<- hal.out, List.take_of_length_le (by have := HL.out; omega)])
      go_wp2_with fail; go_ret; exact ⟨by rw [hN.out]; rfl, hbel⟩
theorem eachI_any (l : List Pp.XIns) (v : Value) (most : Nat) (hmost : most <= 1000) (w : World) (ht : TabS w) (h : RowX w 4 InsX v l) (hl : l.length <= maxLen) :
 Calls Tryz.prog 110 #[v, .int .i64 (most : Int), .func (.func 111) #[] #[]] w fun e w' => e = .returned (.bool (Pp.eachB l most Pp.insB)) /\ Below w.heap.size w w' := by
 obtain ⟨a, c, rfl, hc, hr⟩ := h; have hC := hide (fun (x : Pp.XIns) (ys : List Value) (hx : InsX x ys) w' (hb : Below w.heap.size w w') => isInstr_any x hx.2.1 hx.2.2 w' (ht.below hb)); clear ht; unfold maxLen at hl; obtain ⟨len, hlen⟩ : ∃ len, len = l.length := ⟨_, rfl⟩; have HL := hide hlen; rw [<- hlen] at hl hc ⊢; clear hlen; have HR := hide hr; clear hr; by_cases hm : most < len
 · have hR : Hid (Pp.eachB l most Pp.insB = false) := hide (by unfold Pp.eachB; rw [<- HL.out]; simp; omega)
   go_enter Tryz.func110, Tryz.ntmps110; go_wp2_with fail; go_ret; exact ⟨by rw [hR.out]; rfl, Below.refl _ _⟩
 · have hR : Hid (Pp.eachB l most Pp.insB = l.all Pp.insB) := hide (by unfold Pp.eachB; rw [<- HL.out]; simp; omega)
   rw [hR.out]; clear hR; go_enter Tryz.func110, Tryz.ntmps110; go_wp2_with fail
   go_loopw [15] (fun i wr => ∃ k : Nat, k <= len /\ i = .int .i64 k /\ Below w.heap.size w wr /\ Hid ((l.take k).all Pp.insB = true)) (fun i _ => len - (intOf i).toNat)
   case atStart => exact ⟨0, Nat.zero_le _, rfl, Below.refl _ _, rfl⟩
   case round =>
    obtain ⟨k, hk, rfl, hbel, hal⟩ := hrel; by_cases hlt : k < len
    · have hco : k < l.length := by rw [<- HL.out]; exact hlt
      rcases HR.out with h0 | ⟨b, o, rfl, hb1, hc1⟩
      · rw [h0] at hco; simp at hco
      obtain ⟨x, hx⟩ : ∃ x, l[k]? = some x := ⟨l[k]'hco, List.getElem?_eq_getElem _⟩; obtain ⟨ys, e1, g1⟩ := hc1 k x hx
      have hstep : Hid ((l.take (k + 1)).all Pp.insB = Pp.insB x) := hide (by
       rw [List.take_add_one, List.all_append, hal.out, hx]; simp)
      have hmem : Hid (Pp.insB x = false -> l.all Pp.insB = false) := hide (fun h => by
       rw [List.all_eq_false]; exact ⟨x, List.mem_of_getElem? hx, by rw [h]; exact Bool.false_ne_true⟩)
      have hG := hide g1; have HC := hide (fun wq (hq : Below wr.heap.size wr wq) => hC.out x ys e1 wq (hbel.trans (hq.mono hbel.size))); clear hc1 HR hx hco hal hC g1; obtain rfl : ys = _ := e1.1; clear e1; have r0 := (hbel.cell (by exact hb1)).trans (hG.out 0 _ rfl)
      have r1 := (hbel.cell (by exact hb1)).trans (hG.out 1 _ rfl)
      have r2 := (hbel.cell (by exact hb1)).trans (hG.out 2 _ rfl)
      have r3 := (hbel.cell (by exact hb1)).trans (hG.out 3 _ rfl)
      rw [Nat.add_zero] at r0; clear hG
      try generalize x.op = y0 at *
      try generalize x.n = y1 at *
      try generalize (⟨x.a.toArray⟩ : ByteArray) = y2 at *
      try generalize (⟨x.b.toArray⟩ : ByteArray) = y3 at *
      generalize Pp.insB x = R at *
      have hlt' : (k : Int) < (len : Int) := by omega
      cases R with
      | false =>
        go_wp2_with fail; refine (HC.out _ ((Below.refl _ _).alloc (Nat.le_refl _) _)).mono ?_; rintro e wq ⟨rfl, hbq⟩; have HQ := hide (hbel.trans ((((Below.refl _ _).alloc (Nat.le_refl _) _).trans (hbq.mono (by simp))).mono hbel.size))
        clear HC hbq; go_wp2_with fail; go_ret; exact ⟨by rw [hmem.out trivial]; rfl, HQ.out⟩
      | true =>
        go_wp2_with fail; refine (HC.out _ ((Below.refl _ _).alloc (Nat.le_refl _) _)).mono ?_; rintro e wq ⟨rfl, hbq⟩; have HQ := hide (hbel.trans ((((Below.refl _ _).alloc (Nat.le_refl _) _).trans (hbq.mono (by simp))).mono hbel.size))
        clear HC hbq; go_wp2_with fail
        go_roundw
        case rel => exact ⟨k + 1, by omega, by go_num, HQ.out, hstep⟩
        case measure => simp [intOf]; omega
    · have hN : Hid (l.all Pp.insB = true) := hide (by rw [<- hal.out, List.take_of_length_le (by have := HL.out; omega)])
      go_wp2_with fail; go_ret; exact ⟨by rw [hN.out]; rfl, hbel⟩
theorem eachC_any (l : List Pp.Ctc) (v : Value) (most : Nat) (hmost : most <= 1000) (w : World) (ht : TabS w) (h : RowX w 4 CtcX v l) (hl : l.length <= maxLen) :
 Calls Tryz.prog 112 #[v, .int .i64 (most : Int), .func (.func 113) #[] #[]] w fun e w' => e = .returned (.bool (Pp.eachB l most Pp.ctcB)) /\ Below w.heap.size w w' := by
 obtain ⟨a, c, rfl, hc, hr⟩ := h; have hC := hide (fun (x : Pp.Ctc) (ys : List Value) (hx : CtcX x ys) w' (hb : Below w.heap.size w w') => isCatch_any x hx.2 w' (ht.below hb)); clear ht; unfold maxLen at hl; obtain ⟨len, hlen⟩ : ∃ len, len = l.length := ⟨_, rfl⟩; have HL := hide hlen; rw [<- hlen] at hl hc ⊢; clear hlen; have HR := hide hr; clear hr; by_cases hm : most < len
 · have hR : Hid (Pp.eachB l most Pp.ctcB = false) := hide (by unfold Pp.eachB; rw [<- HL.out]; simp; omega)
   go_enter Tryz.func112, Tryz.ntmps112; go_wp2_with fail; go_ret; exact ⟨by rw [hR.out]; rfl, Below.refl _ _⟩
 · have hR : Hid (Pp.eachB l most Pp.ctcB = l.all Pp.ctcB) := hide (by unfold Pp.eachB; rw [<- HL.out]; simp; omega)
   rw [hR.out]; clear hR; go_enter Tryz.func112, Tryz.ntmps112; go_wp2_with fail
   go_loopw [15] (fun i wr => ∃ k : Nat, k <= len /\ i = .int .i64 k /\ Below w.heap.size w wr /\ Hid ((l.take k).all Pp.ctcB = true)) (fun i _ => len - (intOf i).toNat)
   case atStart => exact ⟨0, Nat.zero_le _, rfl, Below.refl _ _, rfl⟩
   case round =>
    obtain ⟨k, hk, rfl, hbel, hal⟩ := hrel; by_cases hlt : k < len
    · have hco : k < l.length := by rw [<- HL.out]; exact hlt
      rcases HR.out with h0 | ⟨b, o, rfl, hb1, hc1⟩
      · rw [h0] at hco; simp at hco
      obtain ⟨x, hx⟩ : ∃ x, l[k]? = some x := ⟨l[k]'hco, List.getElem?_eq_getElem _⟩; obtain ⟨ys, e1, g1⟩ := hc1 k x hx
      have hstep : Hid ((l.take (k + 1)).all Pp.ctcB = Pp.ctcB x) := hide (by
       rw [List.take_add_one, List.all_append, hal.out, hx]; simp)
      have hmem : Hid (Pp.ctcB x = false -> l.all Pp.ctcB = false) := hide (fun h => by
       rw [List.all_eq_false]; exact ⟨x, List.mem_of_getElem? hx, by rw [h]; exact Bool.false_ne_true⟩)
      have hG := hide g1; have HC := hide (fun wq (hq : Below wr.heap.size wr wq) => hC.out x ys e1 wq (hbel.trans (hq.mono hbel.size))); clear hc1 HR hx hco hal hC g1; obtain rfl : ys = _ := e1.1; clear e1; have r0 := (hbel.cell (by exact hb1)).trans (hG.out 0 _ rfl)
      have r1 := (hbel.cell (by exact hb1)).trans (hG.out 1 _ rfl)
      have r2 := (hbel.cell (by exact hb1)).trans (hG.out 2 _ rfl)
      have r3 := (hbel.cell (by exact hb1)).trans (hG.out 3 _ rfl)
      rw [Nat.add_zero] at r0; clear hG
      try generalize (⟨x.name.toArray⟩ : ByteArray) = y0 at *
      try generalize x.lo = y1 at *
      try generalize x.hi = y2 at *
      try generalize x.pc = y3 at *
      generalize Pp.ctcB x = R at *
      have hlt' : (k : Int) < (len : Int) := by omega
      cases R with
      | false =>
        go_wp2_with fail; refine (HC.out _ ((Below.refl _ _).alloc (Nat.le_refl _) _)).mono ?_; rintro e wq ⟨rfl, hbq⟩; have HQ := hide (hbel.trans ((((Below.refl _ _).alloc (Nat.le_refl _) _).trans (hbq.mono (by simp))).mono hbel.size))
        clear HC hbq; go_wp2_with fail; go_ret; exact ⟨by rw [hmem.out trivial]; rfl, HQ.out⟩
      | true =>
        go_wp2_with fail; refine (HC.out _ ((Below.refl _ _).alloc (Nat.le_refl _) _)).mono ?_; rintro e wq ⟨rfl, hbq⟩; have HQ := hide (hbel.trans ((((Below.refl _ _).alloc (Nat.le_refl _) _).trans (hbq.mono (by simp))).mono hbel.size))
        clear HC hbq; go_wp2_with fail
        go_roundw
        case rel => exact ⟨k + 1, by omega, by go_num, HQ.out, hstep⟩
        case measure => simp [intOf]; omega
    · have hN : Hid (l.all Pp.ctcB = true) := hide (by rw [<- hal.out, List.take_of_length_le (by have := HL.out; omega)])
      go_wp2_with fail; go_ret; exact ⟨by rw [hN.out]; rfl, hbel⟩
theorem isBody_any (m : Pp.XMth) (ys : List Value) (w : World) (ht : TabS w) (h : MthX w m ys) :
 Calls Tryz.prog 96 #[.agg ys.toArray] w fun e w' => e = .returned (.bool (Pp.bodyB m)) /\ Below w.heap.size w w' := by
 obtain ⟨vp, vc, vk, rfl, x1, x2, x3, x4⟩ := h; obtain ⟨n, st, ab, ps, rt, lo, co, ca⟩ := m; simp only at x1 x2 x3 x4; obtain ⟨y1, y2, y3, y4, y5⟩ := x4; have hC := hide (fun w' (hb : Below w.heap.size w w') => eachI_any co vc 48 (by omega) w' (ht.below hb) (x2.on hb fun _ _ h => h) y4)
 have hK := hide (fun w' (hb : Below w.heap.size w w') => eachC_any ca vk 4 (by omega) w' (ht.below hb) (x3.on hb fun _ _ h => h) y5)
 have hW := hide (fun w => within_any lo 0 8 w); obtain ⟨pa, pc, rfl, _⟩ := x1.len; obtain ⟨cq, cc, rfl, _⟩ := x2.len; obtain ⟨kq, kc, rfl, _⟩ := x3.len; clear x1 x2 x3 ht; simp only [mthXL, List.toArray]; generalize (⟨n.toArray⟩ : ByteArray) = S0 at *
 generalize (⟨rt.name.toArray⟩ : ByteArray) = S1 at *
 cases ab with
 | true =>
   have hR : Hid (Pp.bodyB ⟨n, st, true, ps, rt, lo, co, ca⟩ = (lo == 0 && (co.isEmpty && ca.isEmpty))) := rfl; generalize Pp.bodyB ⟨n, st, true, ps, rt, lo, co, ca⟩ = R at *
   have e1 : Hid (co.isEmpty = (((co.length : Nat) : Int) == 0)) := hide (by cases co <;> simp; omega)
   have e2 : Hid (ca.isEmpty = (((ca.length : Nat) : Int) == 0)) := hide (by cases ca <;> simp; omega)
   rw [e1.out, e2.out] at hR; clear hC hK hW e1 e2; generalize co.length = n1 at *
   generalize ca.length = n2 at *
   unfold maxLen at y4 y5; by_cases h1 : lo = 0
   · subst h1
     by_cases h2 : n1 = 0
     · subst h2
       go_enter Tryz.func96, Tryz.ntmps96; go_wp2_with fail; go_ret; exact ⟨by rw [hR.out]; simp, (Below.refl _ _).alloc (Nat.le_refl _) _⟩
     · have h2' : ((n1 : Int) == 0) = false := by simp; omega
       go_enter Tryz.func96, Tryz.ntmps96; go_wp2_with fail; go_ret; exact ⟨by rw [hR.out, h2']; rfl, (Below.refl _ _).alloc (Nat.le_refl _) _⟩
   · have h1' : (lo == 0) = false := by simpa using h1
     go_enter Tryz.func96, Tryz.ntmps96; go_wp2_with fail; go_ret; exact ⟨by rw [hR.out, h1']; rfl, (Below.refl _ _).alloc (Nat.le_refl _) _⟩
 | false =>
   have hR : Hid (Pp.bodyB ⟨n, st, false, ps, rt, lo, co, ca⟩ = (Pp.withinB lo 0 8 && (Pp.eachB co 48 Pp.insB && Pp.eachB ca 4 Pp.ctcB))) := rfl; generalize Pp.bodyB ⟨n, st, false, ps, rt, lo, co, ca⟩ = R at *
   generalize Pp.withinB lo 0 8 = b0 at *
   generalize Pp.eachB co 48 Pp.insB = b1 at *
   generalize Pp.eachB ca 4 Pp.ctcB = b2 at *
   generalize co.length = n1 at *
   generalize ca.length = n2 at *
   generalize ps.length = n3 at *
   go_enter Tryz.func96, Tryz.ntmps96; go_wp2_with fail; refine (hW.out _).mono ?_; rintro e wq ⟨rfl, hwq⟩; subst hwq; clear hW; cases b0 with
   | false =>
     go_wp2_with fail; go_ret; exact ⟨by rw [hR.out]; rfl, (Below.refl _ _).alloc (Nat.le_refl _) _⟩
   | true =>
     go_wp2_with fail; refine (hC.out _ ((Below.refl _ _).alloc (Nat.le_refl _) _)).mono ?_; rintro e w1 ⟨rfl, hb1⟩; obtain ⟨B1, HB, hsz⟩ := box_one hb1; have p8 : w1.cell? ⟨w.heap.size, 8, none⟩ = some (.slice kq n2 kc) := B1 8; have HB := hide HB; clear B1 hb1 hC; cases b1 with
     | false =>
       go_wp2_with fail; go_ret; exact ⟨by rw [hR.out]; rfl, HB.out⟩
     | true =>
       go_wp2_with fail; refine (hK.out _ HB.out).mono ?_; rintro e w2 ⟨rfl, hb2⟩; have HB2 := hide (HB.out.trans (hb2.mono HB.out.size)); clear hb2 hK p8; go_wp2_with fail; go_ret; exact ⟨by rw [hR.out]; simp, HB2.out⟩
theorem isMethod_any (m : Pp.XMth) (ys : List Value) (w : World) (ht : TabS w) (h : MthX w m ys) :
 Calls Tryz.prog 80 #[.agg ys.toArray] w fun e w' => e = .returned (.bool (Pp.mthB m)) /\ Below w.heap.size w w' := by
 have hBd := hide (fun w' (hb : Below w.heap.size w w') => isBody_any m ys w' (ht.below hb) (h.on hb)); obtain ⟨vp, vc, vk, rfl, x1, x2, x3, x4⟩ := h; obtain ⟨y1, y2, y3, y4, y5⟩ := x4; have hR : Hid (Pp.mthB m = (Pp.freshB m.name && (Pp.eachB m.params 4 Pp.typeB && (Pp.typeB m.ret && Pp.bodyB m)))) := rfl; generalize Pp.mthB m = R at *
 generalize Pp.bodyB m = b3 at *
 obtain ⟨n, st, ab, ps, rt, lo, co, ca⟩ := m; simp only at x1 x2 x3 y1 y2 y3 hR; have hF := hide (fun w' (hb : Below w.heap.size w w') => fresh_any n y1 w' (ht.below hb)); have hP := hide (fun w' (hb : Below w.heap.size w w') => eachT_any ps vp 4 (by omega) w' (ht.below hb) (x1.on hb fun _ _ h => h) y3)
 have hT := hide (fun w' (hb : Below w.heap.size w w') => isType_any rt y2 w' (ht.below hb)); obtain ⟨pa, pc, rfl, _⟩ := x1.len; obtain ⟨cq, cc, rfl, _⟩ := x2.len; obtain ⟨kq, kc, rfl, _⟩ := x3.len; clear x1 x2 x3 ht y1 y2 y3 y4 y5; simp only [mthXL, List.toArray] at hBd ⊢; generalize (⟨n.toArray⟩ : ByteArray) = S0 at *
 generalize (⟨rt.name.toArray⟩ : ByteArray) = S1 at *
 generalize Pp.freshB n = b0 at *
 generalize Pp.eachB ps 4 Pp.typeB = b1 at *
 generalize Pp.typeB rt = b2 at *
 generalize co.length = n1 at *
 generalize ca.length = n2 at *
 generalize ps.length = n3 at *
 generalize rt.kind = rk at *
 go_enter Tryz.func80, Tryz.ntmps80; go_wp2_with fail; refine (hF.out _ ((Below.refl _ _).alloc (Nat.le_refl _) _)).mono ?_; rintro e wq ⟨rfl, hwq⟩; subst hwq; clear hF; cases b0 with
 | false =>
   go_wp2_with fail; go_ret; exact ⟨by rw [hR.out]; rfl, (Below.refl _ _).alloc (Nat.le_refl _) _⟩
 | true =>
   go_wp2_with fail; refine (hP.out _ ((Below.refl _ _).alloc (Nat.le_refl _) _)).mono ?_; rintro e w1 ⟨rfl, hb1⟩; obtain ⟨B1, HB, hsz⟩ := box_one hb1; have HB := hide HB; have HX := hide B1; clear B1 hb1 hP; cases b1 with
   | false =>
     go_wp2_with fail; go_ret; exact ⟨by rw [hR.out]; rfl, HB.out⟩
   | true =>
     have p4 : w1.cell? ⟨w.heap.size, 4, none⟩ = some (.int .i64 rk) := HX.out 4; have p5 : w1.cell? ⟨w.heap.size, 5, none⟩ = some (.string S1) := HX.out 5; go_wp2_with fail; refine (hT.out _ HB.out).mono ?_; rintro e w2 ⟨rfl, hb2⟩; have HB2 := hide (HB.out.trans (hb2.mono HB.out.size)); have HX2 := hide (fun k => (hb2.cell (p := ⟨w.heap.size, k, none⟩) (by exact hsz)).trans (HX.out k))
     clear hb2 hT p4 p5 HX; cases b2 with
     | false =>
       go_wp2_with fail; go_ret; exact ⟨by rw [hR.out]; rfl, HB2.out⟩
     | true =>
       have p0 : w2.cell? ⟨w.heap.size, 0, none⟩ = some (.string S0) := HX2.out 0; have p1 : w2.cell? ⟨w.heap.size, 1, none⟩ = some (.bool st) := HX2.out 1; have p2 : w2.cell? ⟨w.heap.size, 2, none⟩ = some (.bool ab) := HX2.out 2; have p3 : w2.cell? ⟨w.heap.size, 3, none⟩ = some (.slice pa n3 pc) := HX2.out 3; have p4 : w2.cell? ⟨w.heap.size, 4, none⟩ = some (.int .i64 rk) := HX2.out 4; have p5 : w2.cell? ⟨w.heap.size, 5, none⟩ = some (.string S1) := HX2.out 5; have p6 : w2.cell? ⟨w.heap.size, 6, none⟩ = some (.int .i64 lo) := HX2.out 6; have p7 : w2.cell? ⟨w.heap.size, 7, none⟩ = some (.slice cq n1 cc) := HX2.out 7; have p8 : w2.cell? ⟨w.heap.size, 8, none⟩ = some (.slice kq n2 kc) := HX2.out 8; clear HX2; go_wp2_with fail; refine (hBd.out _ HB2.out).mono ?_; rintro e w3 ⟨rfl, hb3⟩; have HB3 := hide (HB2.out.trans (hb3.mono HB2.out.size)); clear hb3 hBd p0 p1 p2 p3 p4 p5 p6 p7 p8; go_wp2_with fail; go_ret; exact ⟨by rw [hR.out]; simp, HB3.out⟩
theorem eachM_any (l : List Pp.XMth) (v : Value) (most : Nat) (hmost : most <= 1000) (w : World) (ht : TabS w) (h : RowX w 9 (MthX w) v l) (hl : l.length <= maxLen) :
 Calls Tryz.prog 79 #[v, .int .i64 (most : Int), .func (.func 80) #[] #[]] w fun e w' => e = .returned (.bool (Pp.eachB l most Pp.mthB)) /\ Below w.heap.size w w' := by
 obtain ⟨a, c, rfl, hc, hr⟩ := h; have hC := hide (fun (x : Pp.XMth) (ys : List Value) (hx : MthX w x ys) w' (hb : Below w.heap.size w w') => isMethod_any x ys w' (ht.below hb) (hx.on hb)); clear ht; unfold maxLen at hl; obtain ⟨len, hlen⟩ : ∃ len, len = l.length := ⟨_, rfl⟩; have HL := hide hlen; rw [<- hlen] at hl hc ⊢; clear hlen; have HR := hide hr; clear hr; by_cases hm : most < len
 · have hR : Hid (Pp.eachB l most Pp.mthB = false) := hide (by unfold Pp.eachB; rw [<- HL.out]; simp; omega)
   go_enter Tryz.func79, Tryz.ntmps79; go_wp2_with fail; go_ret; exact ⟨by rw [hR.out]; rfl, Below.refl _ _⟩
 · have hR : Hid (Pp.eachB l most Pp.mthB = l.all Pp.mthB) := hide (by unfold Pp.eachB; rw [<- HL.out]; simp; omega)
   rw [hR.out]; clear hR; go_enter Tryz.func79, Tryz.ntmps79; go_wp2_with fail
   go_loopw [15] (fun i wr => ∃ k : Nat, k <= len /\ i = .int .i64 k /\ Below w.heap.size w wr /\ Hid ((l.take k).all Pp.mthB = true)) (fun i _ => len - (intOf i).toNat)
   case atStart => exact ⟨0, Nat.zero_le _, rfl, Below.refl _ _, rfl⟩
   case round =>
    obtain ⟨k, hk, rfl, hbel, hal⟩ := hrel; by_cases hlt : k < len
    · have hco : k < l.length := by rw [<- HL.out]; exact hlt
      rcases HR.out with h0 | ⟨b, o, rfl, hb1, hc1⟩
      · rw [h0] at hco; simp at hco
      obtain ⟨x, hx⟩ : ∃ x, l[k]? = some x := ⟨l[k]'hco, List.getElem?_eq_getElem _⟩; obtain ⟨ys, e1, g1⟩ := hc1 k x hx
      have hstep : Hid ((l.take (k + 1)).all Pp.mthB = Pp.mthB x) := hide (by
       rw [List.take_add_one, List.all_append, hal.out, hx]; simp)
      have hmem : Hid (Pp.mthB x = false -> l.all Pp.mthB = false) := hide (fun h => by
       rw [List.all_eq_false]; exact ⟨x, List.mem_of_getElem? hx, by rw [h]; exact Bool.false_ne_true⟩)
      have hG := hide g1; have HC := hide (fun wq (hq : Below wr.heap.size wr wq) => hC.out x ys e1 wq (hbel.trans (hq.mono hbel.size))); clear hc1 HR hx hco hal hC g1; obtain ⟨vp, vc, vk, rfl, x1, x2, x3, x4⟩ := e1; obtain ⟨pa, pc, rfl, _⟩ := x1.len; obtain ⟨ca, cc, rfl, _⟩ := x2.len; obtain ⟨ka, kc, rfl, _⟩ := x3.len; clear x1 x2 x3 x4; have r0 := (hbel.cell (by exact hb1)).trans (hG.out 0 _ rfl)
      have r1 := (hbel.cell (by exact hb1)).trans (hG.out 1 _ rfl)
      have r2 := (hbel.cell (by exact hb1)).trans (hG.out 2 _ rfl)
      have r3 := (hbel.cell (by exact hb1)).trans (hG.out 3 _ rfl)
      have r4 := (hbel.cell (by exact hb1)).trans (hG.out 4 _ rfl)
      have r5 := (hbel.cell (by exact hb1)).trans (hG.out 5 _ rfl)
      have r6 := (hbel.cell (by exact hb1)).trans (hG.out 6 _ rfl)
      have r7 := (hbel.cell (by exact hb1)).trans (hG.out 7 _ rfl)
      have r8 := (hbel.cell (by exact hb1)).trans (hG.out 8 _ rfl)
      rw [Nat.add_zero] at r0; clear hG; simp only [mthXL, List.toArray] at HC; generalize (⟨x.name.toArray⟩ : ByteArray) = y0 at *
      generalize x.stat = y1 at *
      generalize x.abst = y2 at *
      generalize x.ret.kind = y3 at *
      generalize (⟨x.ret.name.toArray⟩ : ByteArray) = y4 at *
      generalize x.locals = y5 at *
      generalize x.params.length = n1 at *
      generalize x.code.length = n2 at *
      generalize x.catches.length = n3 at *
      generalize Pp.mthB x = R at *
      have hlt' : (k : Int) < (len : Int) := by omega
      cases R with
      | false =>
        go_wp2_with fail; refine (HC.out _ ((Below.refl _ _).alloc (Nat.le_refl _) _)).mono ?_; rintro e wq ⟨rfl, hbq⟩; have HQ := hide (hbel.trans ((((Below.refl _ _).alloc (Nat.le_refl _) _).trans (hbq.mono (by simp))).mono hbel.size))
        clear HC hbq; go_wp2_with fail; go_ret; exact ⟨by rw [hmem.out trivial]; rfl, HQ.out⟩
      | true =>
        go_wp2_with fail; refine (HC.out _ ((Below.refl _ _).alloc (Nat.le_refl _) _)).mono ?_; rintro e wq ⟨rfl, hbq⟩; have HQ := hide (hbel.trans ((((Below.refl _ _).alloc (Nat.le_refl _) _).trans (hbq.mono (by simp))).mono hbel.size))
        clear HC hbq; go_wp2_with fail
        go_roundw
        case rel => exact ⟨k + 1, by omega, by go_num, HQ.out, hstep⟩
        case measure => simp [intOf]; omega
    · have hN : Hid (l.all Pp.mthB = true) := hide (by rw [<- hal.out, List.take_of_length_le (by have := HL.out; omega)])
      go_wp2_with fail; go_ret; exact ⟨by rw [hN.out]; rfl, hbel⟩
theorem isSuper_any (c : Pp.XCls) (ys : List Value) (w : World) (ht : TabS w) (h : ClsX w c ys) :
 Calls Tryz.prog 75 #[.agg ys.toArray] w fun e w' => e = .returned (.bool (Pp.supB c)) /\ Below w.heap.size w w' := by
 obtain ⟨vp, vc, vk, rfl, x1, x2, x3, x4⟩ := h; obtain ⟨n, ic, su, ifs, fs, ms⟩ := c; simp only at x1 x2 x3 x4; obtain ⟨y1, y2, y3, y4, y5⟩ := x4; have hF := hide (fun w' (hb : Below w.heap.size w w') => fresh_any su y2 w' (ht.below hb)); obtain ⟨pa, pc, rfl, _⟩ := x1.len; obtain ⟨cq, cc, rfl, _⟩ := x2.len; obtain ⟨kq, kc, rfl, _⟩ := x3.len; clear x1 x2 x3 ht y1 y2 y3 y4 y5; simp only [clsXL, List.toArray]; have hR : Hid (Pp.supB ⟨n, ic, su, ifs, fs, ms⟩ = (su == [] || (!ic && Pp.freshB su))) := rfl
 generalize Pp.supB ⟨n, ic, su, ifs, fs, ms⟩ = R at *
 generalize Pp.freshB su = b0 at *
 generalize (⟨n.toArray⟩ : ByteArray) = S0 at *
 generalize ifs.length = n1 at *
 generalize fs.length = n2 at *
 generalize ms.length = n3 at *
 by_cases hs : su = []
 · subst hs
   clear hF; go_enter Tryz.func75, Tryz.ntmps75; go_wp2_with fail; go_ret; exact ⟨by rw [hR.out]; rfl, (Below.refl _ _).alloc (Nat.le_refl _) _⟩
 · have hne : (⟨su.toArray⟩ : ByteArray).toList.isEmpty = false := sh_nonempty su hs
   have hs2 : Hid ((su == []) = false) := hide (by cases su <;> simp_all)
   rw [hs2.out] at hR; generalize (⟨su.toArray⟩ : ByteArray) = S1 at *
   clear hs hs2; cases ic with
   | true =>
     go_enter Tryz.func75, Tryz.ntmps75; go_wp2_with fail; go_ret; exact ⟨by rw [hR.out]; first | rfl | simp, (Below.refl _ _).alloc (Nat.le_refl _) _⟩
   | false =>
     go_enter Tryz.func75, Tryz.ntmps75; go_wp2_with fail; refine (hF.out _ ((Below.refl _ _).alloc (Nat.le_refl _) _)).mono ?_; rintro e wq ⟨rfl, hwq⟩; subst hwq; go_wp2_with fail; go_ret; exact ⟨by rw [hR.out]; simp, (Below.refl _ _).alloc (Nat.le_refl _) _⟩
theorem isClass_any (c : Pp.XCls) (ys : List Value) (w : World) (ht : TabS w) (h : ClsX w c ys) :
 Calls Tryz.prog 54 #[.agg ys.toArray] w fun e w' => e = .returned (.bool (Pp.clsB c)) /\ Below w.heap.size w w' := by
 have hSu := hide (fun w' (hb : Below w.heap.size w w') => isSuper_any c ys w' (ht.below hb) (h.on hb)); obtain ⟨vp, vc, vk, rfl, x1, x2, x3, x4⟩ := h; obtain ⟨y1, y2, y3, y4, y5⟩ := x4; have hR : Hid (Pp.clsB c = (Pp.freshB c.name && (Pp.supB c && (Pp.eachB c.ifaces 4 Pp.freshB && (Pp.eachB c.fields 6 Pp.fldB && Pp.eachB c.methods 6 Pp.mthB))))) := rfl; generalize Pp.clsB c = R at *
 generalize Pp.supB c = b1 at *
 obtain ⟨n, ic, su, ifs, fs, ms⟩ := c; simp only at x1 x2 x3 y1 y2 y3 y4 y5 hR; have hF := hide (fun w' (hb : Below w.heap.size w w') => fresh_any n y1 w' (ht.below hb)); have hI := hide (fun w' (hb : Below w.heap.size w w') => eachS_any ifs vp 4 (by omega) w' (ht.below hb) (x1.on hb fun _ _ h => h) y3)
 have hD := hide (fun w' (hb : Below w.heap.size w w') => eachF_any fs vc 6 (by omega) w' (ht.below hb) (x2.on hb fun _ _ h => h) y4)
 have hM := hide (fun w' (hb : Below w.heap.size w w') => eachM_any ms vk 6 (by omega) w' (ht.below hb) (x3.on hb fun _ _ h => h.on hb) y5)
 obtain ⟨pa, pc, rfl, _⟩ := x1.len; obtain ⟨cq, cc, rfl, _⟩ := x2.len; obtain ⟨kq, kc, rfl, _⟩ := x3.len; clear x1 x2 x3 ht y1 y2 y3 y4 y5; simp only [clsXL, List.toArray] at hSu ⊢; generalize (⟨n.toArray⟩ : ByteArray) = S0 at *
 generalize (⟨su.toArray⟩ : ByteArray) = S1 at *
 generalize Pp.freshB n = b0 at *
 generalize Pp.eachB ifs 4 Pp.freshB = b2 at *
 generalize Pp.eachB fs 6 Pp.fldB = b3 at *
 generalize Pp.eachB ms 6 Pp.mthB = b4 at *
 generalize ifs.length = n1 at *
 generalize fs.length = n2 at *
 generalize ms.length = n3 at *
 go_enter Tryz.func54, Tryz.ntmps54; go_wp2_with fail; refine (hF.out _ ((Below.refl _ _).alloc (Nat.le_refl _) _)).mono ?_; rintro e wq ⟨rfl, hwq⟩; subst hwq; clear hF; cases b0 with
 | false =>
   go_wp2_with fail; go_ret; exact ⟨by rw [hR.out]; rfl, (Below.refl _ _).alloc (Nat.le_refl _) _⟩
 | true =>
   go_wp2_with fail; refine (hSu.out _ ((Below.refl _ _).alloc (Nat.le_refl _) _)).mono ?_; rintro e w1 ⟨rfl, hb1⟩; obtain ⟨B1, HB, hsz⟩ := box_one hb1; have HB := hide HB; have p3 : w1.cell? ⟨w.heap.size, 3, none⟩ = some (.slice pa n1 pc) := B1 3; have p4 : w1.cell? ⟨w.heap.size, 4, none⟩ = some (.slice cq n2 cc) := B1 4; have p5 : w1.cell? ⟨w.heap.size, 5, none⟩ = some (.slice kq n3 kc) := B1 5; clear B1 hb1 hSu; cases b1 with
   | false =>
     go_wp2_with fail; go_ret; exact ⟨by rw [hR.out]; rfl, HB.out⟩
   | true =>
     go_wp2_with fail; refine (hI.out _ HB.out).mono ?_; rintro e w2 ⟨rfl, hb2⟩; have HB2 := hide (HB.out.trans (hb2.mono HB.out.size)); have q4 := (hb2.cell (p := ⟨w.heap.size, 4, none⟩) (by exact hsz)).trans p4
     have q5 := (hb2.cell (p := ⟨w.heap.size, 5, none⟩) (by exact hsz)).trans p5
     have hsz2 := Nat.lt_of_lt_of_le hsz hb2.size; clear hb2 hI p3 p4 p5; cases b2 with
     | false =>
       go_wp2_with fail; go_ret; exact ⟨by rw [hR.out]; rfl, HB2.out⟩
     | true =>
       go_wp2_with fail; refine (hD.out _ HB2.out).mono ?_; rintro e w3 ⟨rfl, hb3⟩; have HB3 := hide (HB2.out.trans (hb3.mono HB2.out.size)); have r5 := (hb3.cell (p := ⟨w.heap.size, 5, none⟩) (by exact hsz2)).trans q5
       clear hb3 hD q4 q5; cases b3 with
       | false =>
         go_wp2_with fail; go_ret; exact ⟨by rw [hR.out]; rfl, HB3.out⟩
       | true =>
         go_wp2_with fail; refine (hM.out _ HB3.out).mono ?_; rintro e w4 ⟨rfl, hb4⟩; have HB4 := hide (HB3.out.trans (hb4.mono HB3.out.size)); clear hb4 hM r5; go_wp2_with fail; go_ret; exact ⟨by rw [hR.out]; simp, HB4.out⟩
theorem eachK_any (l : List Pp.XCls) (v : Value) (most : Nat) (hmost : most <= 1000) (w : World) (ht : TabS w) (h : RowX w 6 (ClsX w) v l) (hl : l.length <= maxLen) :
 Calls Tryz.prog 53 #[v, .int .i64 (most : Int), .func (.func 54) #[] #[]] w fun e w' => e = .returned (.bool (Pp.eachB l most Pp.clsB)) /\ Below w.heap.size w w' := by
 obtain ⟨a, c, rfl, hc, hr⟩ := h; have hC := hide (fun (x : Pp.XCls) (ys : List Value) (hx : ClsX w x ys) w' (hb : Below w.heap.size w w') => isClass_any x ys w' (ht.below hb) (hx.on hb)); clear ht; unfold maxLen at hl; obtain ⟨len, hlen⟩ : ∃ len, len = l.length := ⟨_, rfl⟩; have HL := hide hlen; rw [<- hlen] at hl hc ⊢; clear hlen; have HR := hide hr; clear hr; by_cases hm : most < len
 · have hR : Hid (Pp.eachB l most Pp.clsB = false) := hide (by unfold Pp.eachB; rw [<- HL.out]; simp; omega)
   go_enter Tryz.func53, Tryz.ntmps53; go_wp2_with fail; go_ret; exact ⟨by rw [hR.out]; rfl, Below.refl _ _⟩
 · have hR : Hid (Pp.eachB l most Pp.clsB = l.all Pp.clsB) := hide (by unfold Pp.eachB; rw [<- HL.out]; simp; omega)
   rw [hR.out]; clear hR; go_enter Tryz.func53, Tryz.ntmps53; go_wp2_with fail
   go_loopw [15] (fun i wr => ∃ k : Nat, k <= len /\ i = .int .i64 k /\ Below w.heap.size w wr /\ Hid ((l.take k).all Pp.clsB = true)) (fun i _ => len - (intOf i).toNat)
   case atStart => exact ⟨0, Nat.zero_le _, rfl, Below.refl _ _, rfl⟩
   case round =>
    obtain ⟨k, hk, rfl, hbel, hal⟩ := hrel; by_cases hlt : k < len
    · have hco : k < l.length := by rw [<- HL.out]; exact hlt
      rcases HR.out with h0 | ⟨b, o, rfl, hb1, hc1⟩
      · rw [h0] at hco; simp at hco
      obtain ⟨x, hx⟩ : ∃ x, l[k]? = some x := ⟨l[k]'hco, List.getElem?_eq_getElem _⟩; obtain ⟨ys, e1, g1⟩ := hc1 k x hx
      have hstep : Hid ((l.take (k + 1)).all Pp.clsB = Pp.clsB x) := hide (by
       rw [List.take_add_one, List.all_append, hal.out, hx]; simp)
      have hmem : Hid (Pp.clsB x = false -> l.all Pp.clsB = false) := hide (fun h => by
       rw [List.all_eq_false]; exact ⟨x, List.mem_of_getElem? hx, by rw [h]; exact Bool.false_ne_true⟩)
      have hG := hide g1; have HC := hide (fun wq (hq : Below wr.heap.size wr wq) => hC.out x ys e1 wq (hbel.trans (hq.mono hbel.size))); clear hc1 HR hx hco hal hC g1; obtain ⟨vp, vc, vk, rfl, x1, x2, x3, x4⟩ := e1; obtain ⟨pa, pc, rfl, _⟩ := x1.len; obtain ⟨ca, cc, rfl, _⟩ := x2.len; obtain ⟨ka, kc, rfl, _⟩ := x3.len; clear x1 x2 x3 x4; have r0 := (hbel.cell (by exact hb1)).trans (hG.out 0 _ rfl)
      have r1 := (hbel.cell (by exact hb1)).trans (hG.out 1 _ rfl)
      have r2 := (hbel.cell (by exact hb1)).trans (hG.out 2 _ rfl)
      have r3 := (hbel.cell (by exact hb1)).trans (hG.out 3 _ rfl)
      have r4 := (hbel.cell (by exact hb1)).trans (hG.out 4 _ rfl)
      have r5 := (hbel.cell (by exact hb1)).trans (hG.out 5 _ rfl)
      rw [Nat.add_zero] at r0; clear hG; simp only [clsXL, List.toArray] at HC; generalize (⟨x.name.toArray⟩ : ByteArray) = y0 at *
      generalize x.iface = y1 at *
      generalize (⟨x.super.toArray⟩ : ByteArray) = y2 at *
      generalize x.ifaces.length = n1 at *
      generalize x.fields.length = n2 at *
      generalize x.methods.length = n3 at *
      generalize Pp.clsB x = R at *
      have hlt' : (k : Int) < (len : Int) := by omega
      cases R with
      | false =>
        go_wp2_with fail; refine (HC.out _ ((Below.refl _ _).alloc (Nat.le_refl _) _)).mono ?_; rintro e wq ⟨rfl, hbq⟩; have HQ := hide (hbel.trans ((((Below.refl _ _).alloc (Nat.le_refl _) _).trans (hbq.mono (by simp))).mono hbel.size))
        clear HC hbq; go_wp2_with fail; go_ret; exact ⟨by rw [hmem.out trivial]; rfl, HQ.out⟩
      | true =>
        go_wp2_with fail; refine (HC.out _ ((Below.refl _ _).alloc (Nat.le_refl _) _)).mono ?_; rintro e wq ⟨rfl, hbq⟩; have HQ := hide (hbel.trans ((((Below.refl _ _).alloc (Nat.le_refl _) _).trans (hbq.mono (by simp))).mono hbel.size))
        clear HC hbq; go_wp2_with fail
        go_roundw
        case rel => exact ⟨k + 1, by omega, by go_num, HQ.out, hstep⟩
        case measure => simp [intOf]; omega
    · have hN : Hid (l.all Pp.clsB = true) := hide (by rw [<- hal.out, List.take_of_length_le (by have := HL.out; omega)])
      go_wp2_with fail; go_ret; exact ⟨by rw [hN.out]; rfl, hbel⟩
theorem Check_any (cs : List Pp.XCls) (v : Value) (w : World) (ht : TabS w) (h : ProgX w v cs) :
 Calls Tryz.prog 32 #[.agg #[v]] w fun e w' => e = .returned (.int .i64 (if Pp.progB cs = true then 0 else 4)) /\ Below w.heap.size w w' := by
 have hC := hide (fun w' (hb : Below w.heap.size w w') => eachK_any cs v 10 (by omega) w' (ht.below hb) (h.1.on hb fun _ _ h => h.on hb) h.2)
 obtain ⟨pa, pc, rfl, _⟩ := h.1.len; clear h ht; have hR : Hid (Pp.progB cs = Pp.eachB cs 10 Pp.clsB) := rfl; rw [hR.out]; clear hR; generalize Pp.eachB cs 10 Pp.clsB = b0 at *
 generalize cs.length = n1 at *
 cases b0 with
 | false =>
   go_enter Tryz.func32, Tryz.ntmps32; go_wp2_with fail; refine (hC.out _ ((Below.refl _ _).alloc (Nat.le_refl _) _)).mono ?_; rintro e w1 ⟨rfl, hb1⟩; obtain ⟨B1, HB, hsz⟩ := box_one hb1; have HB := hide HB; clear B1 hb1 hC; go_wp2_with fail; go_ret; exact ⟨rfl, HB.out⟩
 | true =>
   go_enter Tryz.func32, Tryz.ntmps32; go_wp2_with fail; refine (hC.out _ ((Below.refl _ _).alloc (Nat.le_refl _) _)).mono ?_; rintro e w1 ⟨rfl, hb1⟩; obtain ⟨B1, HB, hsz⟩ := box_one hb1; have HB := hide HB; clear B1 hb1 hC; go_wp2_with fail; go_ret; exact ⟨rfl, HB.out⟩
end Go.Proofs.YtjlappamkfjlkabGreatDoor
