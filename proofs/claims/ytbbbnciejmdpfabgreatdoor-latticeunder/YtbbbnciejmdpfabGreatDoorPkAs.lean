/- What the laws of this seat lean on: 3 texts. -/
import Derived.Test.YtbbbnciejmdpfabGreatDoorPkAr
set_option maxRecDepth 100000
set_option maxHeartbeats 64000000
set_option linter.unusedVariables false
set_option linter.unusedSimpArgs false
namespace Go.Proofs.YtbbbnciejmdpfabGreatDoor
open Go.RowKit
theorem eachM_any (l : List Pp.XMth) (v : Value) (most : Nat) (hmost : most <= 1000) (w : World) (ht : TabS w) (h : RowX w 9 (MthX w) v l) (hl : l.length <= maxLen) :
 Calls Tryz.prog 90 #[v, .int .i64 (most : Int), .func (.func 91) #[] #[]] w fun e w' => e = .returned (.bool (Pp.eachB l most Pp.mthB)) /\ Below w.heap.size w w' := by
 obtain ⟨a, c, rfl, hc, hr⟩ := h; have hC := hide (fun (x : Pp.XMth) (ys : List Value) (hx : MthX w x ys) w' (hb : Below w.heap.size w w') => isMethod_any x ys w' (ht.below hb) (hx.on hb)); clear ht; unfold maxLen at hl; obtain ⟨len, hlen⟩ : ∃ len, len = l.length := ⟨_, rfl⟩; have HL := hide hlen; rw [<- hlen] at hl hc ⊢; clear hlen; have HR := hide hr; clear hr; by_cases hm : most < len
 · have hR : Hid (Pp.eachB l most Pp.mthB = false) := hide (by unfold Pp.eachB; rw [<- HL.out]; simp; omega)
   go_enter Tryz.func90, Tryz.ntmps90; go_wp2_with fail; go_ret; exact ⟨by rw [hR.out]; rfl, Below.refl _ _⟩
 · have hR : Hid (Pp.eachB l most Pp.mthB = l.all Pp.mthB) := hide (by unfold Pp.eachB; rw [<- HL.out]; simp; omega)
   rw [hR.out]; clear hR; go_enter Tryz.func90, Tryz.ntmps90; go_wp2_with fail
   go_loopw [15] (fun i wr => ∃ k : Nat, k <= len /\ i = .int .i64 k /\ Below w.heap.size w wr /\ Hid ((l.take k).all Pp.mthB = true)) (fun i _ => len - (intOf i).toNat)
   case atStart => exact ⟨0, Nat.zero_le _, rfl, Below.refl _ _, rfl⟩
   case round =>
    obtain ⟨k, hk, rfl, hbel, hal⟩ := hrel; by_cases hlt : k < len
    · have hco : k < l.length := by rw [<- HL.out]; exact hlt
      rcases HR.out with h0 | ⟨b, o, rfl, hb1, hc1⟩
      · rw [h0] at hco; simp at hco
      obtain ⟨x, hx⟩ : ∃ x, l[k]? = some x := ⟨l[k]'hco, List.getElem?_eq_getElem _⟩; obtain ⟨ys, e1, g1⟩ := hc1 k x hx
      have hstep : Hid ((l.take (k + 1)).all Pp.mthB = Pp.mthB x) := hide (by
       rw [List.take_add_one, List.all_append, hal.out, hx]; simp)
      have hmem : Hid (Pp.mthB x = false -> l.all Pp.mthB = false) := hide (fun h => by
       rw [List.all_eq_false]; exact ⟨x, List.mem_of_getElem? hx, by rw [h]; exact Bool.false_ne_true⟩)
      have hG := hide g1; have HC := hide (fun wq (hq : Below wr.heap.size wr wq) => hC.out x ys e1 wq (hbel.trans (hq.mono hbel.size))); clear hc1 HR hx hco hal hC g1; obtain ⟨vp, vc, vk, rfl, x1, x2, x3, x4⟩ := e1; obtain ⟨pa, pc, rfl, _⟩ := x1.len; obtain ⟨ca, cc, rfl, _⟩ := x2.len; obtain ⟨ka, kc, rfl, _⟩ := x3.len; clear x1 x2 x3 x4; have r0 := (hbel.cell (by exact hb1)).trans (hG.out 0 _ rfl)
      have r1 := (hbel.cell (by exact hb1)).trans (hG.out 1 _ rfl)
      have r2 := (hbel.cell (by exact hb1)).trans (hG.out 2 _ rfl)
      have r3 := (hbel.cell (by exact hb1)).trans (hG.out 3 _ rfl)
      have r4 := (hbel.cell (by exact hb1)).trans (hG.out 4 _ rfl)
      have r5 := (hbel.cell (by exact hb1)).trans (hG.out 5 _ rfl)
      have r6 := (hbel.cell (by exact hb1)).trans (hG.out 6 _ rfl)
      have r7 := (hbel.cell (by exact hb1)).trans (hG.out 7 _ rfl)
      have r8 := (hbel.cell (by exact hb1)).trans (hG.out 8 _ rfl)
      rw [Nat.add_zero] at r0; clear hG; simp only [mthXL, List.toArray] at HC; generalize (⟨x.name.toArray⟩ : ByteArray) = y0 at *
      generalize x.stat = y1 at *
      generalize x.abst = y2 at *
      generalize x.ret.kind = y3 at *
      generalize (⟨x.ret.name.toArray⟩ : ByteArray) = y4 at *
      generalize x.locals = y5 at *
      generalize x.params.length = n1 at *
      generalize x.code.length = n2 at *
      generalize x.catches.length = n3 at *
      generalize Pp.mthB x = R at *
      have hlt' : (k : Int) < (len : Int) := by omega
      cases R with
      | false =>
        go_wp2_with fail; refine (HC.out _ ((Below.refl _ _).alloc (Nat.le_refl _) _)).mono ?_; rintro e wq ⟨rfl, hbq⟩; have HQ := hide (hbel.trans ((((Below.refl _ _).alloc (Nat.le_refl _) _).trans (hbq.mono (by simp))).mono hbel.size))
        clear HC hbq; go_wp2_with fail; go_ret; exact ⟨by rw [hmem.out trivial]; rfl, HQ.out⟩
      | true =>
        go_wp2_with fail; refine (HC.out _ ((Below.refl _ _).alloc (Nat.le_refl _) _)).mono ?_; rintro e wq ⟨rfl, hbq⟩; have HQ := hide (hbel.trans ((((Below.refl _ _).alloc (Nat.le_refl _) _).trans (hbq.mono (by simp))).mono hbel.size))
        clear HC hbq; go_wp2_with fail
        go_roundw
        case rel => exact ⟨k + 1, by omega, by go_num, HQ.out, hstep⟩
        case measure => simp [intOf]; omega
    · have hN : Hid (l.all Pp.mthB = true) := hide (by rw [<- hal.out, List.take_of_length_le (by have := HL.out; omega)])
      go_wp2_with fail; go_ret; exact ⟨by rw [hN.out]; rfl, hbel⟩
theorem isSuper_any (c : Pp.XCls) (ys : List Value) (w : World) (ht : TabS w) (h : ClsX w c ys) :
 Calls Tryz.prog 86 #[.agg ys.toArray] w fun e w' => e = .returned (.bool (Pp.supB c)) /\ Below w.heap.size w w' := by
 obtain ⟨vp, vc, vk, rfl, x1, x2, x3, x4⟩ := h; obtain ⟨n, ic, su, ifs, fs, ms⟩ := c; simp only at x1 x2 x3 x4; obtain ⟨y1, y2, y3, y4, y5⟩ := x4; have hF := hide (fun w' (hb : Below w.heap.size w w') => fresh_any su y2 w' (ht.below hb)); obtain ⟨pa, pc, rfl, _⟩ := x1.len; obtain ⟨cq, cc, rfl, _⟩ := x2.len; obtain ⟨kq, kc, rfl, _⟩ := x3.len; clear x1 x2 x3 ht y1 y2 y3 y4 y5; simp only [clsXL, List.toArray]; have hR : Hid (Pp.supB ⟨n, ic, su, ifs, fs, ms⟩ = (su == [] || (!ic && Pp.freshB su))) := rfl
 generalize Pp.supB ⟨n, ic, su, ifs, fs, ms⟩ = R at *
 generalize Pp.freshB su = b0 at *
 generalize (⟨n.toArray⟩ : ByteArray) = S0 at *
 generalize ifs.length = n1 at *
 generalize fs.length = n2 at *
 generalize ms.length = n3 at *
 by_cases hs : su = []
 · subst hs
   clear hF; go_enter Tryz.func86, Tryz.ntmps86; go_wp2_with fail; go_ret; exact ⟨by rw [hR.out]; rfl, (Below.refl _ _).alloc (Nat.le_refl _) _⟩
 · have hne : (⟨su.toArray⟩ : ByteArray).toList.isEmpty = false := sh_nonempty su hs
   have hs2 : Hid ((su == []) = false) := hide (by cases su <;> simp_all)
   rw [hs2.out] at hR; generalize (⟨su.toArray⟩ : ByteArray) = S1 at *
   clear hs hs2; cases ic with
   | true =>
     go_enter Tryz.func86, Tryz.ntmps86; go_wp2_with fail; go_ret; exact ⟨by rw [hR.out]; first | rfl | simp, (Below.refl _ _).alloc (Nat.le_refl _) _⟩
   | false =>
     go_enter Tryz.func86, Tryz.ntmps86; go_wp2_with fail; refine (hF.out _ ((Below.refl _ _).alloc (Nat.le_refl _) _)).mono ?_; rintro e wq ⟨rfl, hwq⟩; subst hwq; go_wp2_with fail; go_ret; exact ⟨by rw [hR.out]; simp, (Below.refl _ _).alloc (Nat.le_refl _) _⟩
theorem isClass_any (c : Pp.XCls) (ys : List Value) (w : World) (ht : TabS w) (h : ClsX w c ys) :
 Calls Tryz.prog 75 #[.agg ys.toArray] w fun e w' => e = .returned (.bool (Pp.clsB c)) /\ Below w.heap.size w w' := by
 have hSu := hide (fun w' (hb : Below w.heap.size w w') => isSuper_any c ys w' (ht.below hb) (h.on hb)); obtain ⟨vp, vc, vk, rfl, x1, x2, x3, x4⟩ := h; obtain ⟨y1, y2, y3, y4, y5⟩ := x4; have hR : Hid (Pp.clsB c = (Pp.freshB c.name && (Pp.supB c && (Pp.eachB c.ifaces 4 Pp.freshB && (Pp.eachB c.fields 6 Pp.fldB && Pp.eachB c.methods 6 Pp.mthB))))) := rfl; generalize Pp.clsB c = R at *
 generalize Pp.supB c = b1 at *
 obtain ⟨n, ic, su, ifs, fs, ms⟩ := c; simp only at x1 x2 x3 y1 y2 y3 y4 y5 hR; have hF := hide (fun w' (hb : Below w.heap.size w w') => fresh_any n y1 w' (ht.below hb)); have hI := hide (fun w' (hb : Below w.heap.size w w') => eachS_any ifs vp 4 (by omega) w' (ht.below hb) (x1.on hb fun _ _ h => h) y3)
 have hD := hide (fun w' (hb : Below w.heap.size w w') => eachF_any fs vc 6 (by omega) w' (ht.below hb) (x2.on hb fun _ _ h => h) y4)
 have hM := hide (fun w' (hb : Below w.heap.size w w') => eachM_any ms vk 6 (by omega) w' (ht.below hb) (x3.on hb fun _ _ h => h.on hb) y5)
 obtain ⟨pa, pc, rfl, _⟩ := x1.len; obtain ⟨cq, cc, rfl, _⟩ := x2.len; obtain ⟨kq, kc, rfl, _⟩ := x3.len; clear x1 x2 x3 ht y1 y2 y3 y4 y5; simp only [clsXL, List.toArray] at hSu ⊢; generalize (⟨n.toArray⟩ : ByteArray) = S0 at *
 generalize (⟨su.toArray⟩ : ByteArray) = S1 at *
 generalize Pp.freshB n = b0 at *
 generalize Pp.eachB ifs 4 Pp.freshB = b2 at *
 generalize Pp.eachB fs 6 Pp.fldB = b3 at *
 generalize Pp.eachB ms 6 Pp.mthB = b4 at *
 generalize ifs.length = n1 at *
 generalize fs.length = n2 at *
 generalize ms.length = n3 at *
 go_enter Tryz.func75, Tryz.ntmps75; go_wp2_with fail; refine (hF.out _ ((Below.refl _ _).alloc (Nat.le_refl _) _)).mono ?_; rintro e wq ⟨rfl, hwq⟩; subst hwq; clear hF; cases b0 with
 | false =>
   go_wp2_with fail; go_ret; exact ⟨by rw [hR.out]; rfl, (Below.refl _ _).alloc (Nat.le_refl _) _⟩
 | true =>
   go_wp2_with fail; refine (hSu.out _ ((Below.refl _ _).alloc (Nat.le_refl _) _)).mono ?_; rintro e w1 ⟨rfl, hb1⟩; obtain ⟨B1, HB, hsz⟩ := box_one hb1; have HB := hide HB; have p3 : w1.cell? ⟨w.heap.size, 3, none⟩ = some (.slice pa n1 pc) := B1 3; have p4 : w1.cell? ⟨w.heap.size, 4, none⟩ = some (.slice cq n2 cc) := B1 4; have p5 : w1.cell? ⟨w.heap.size, 5, none⟩ = some (.slice kq n3 kc) := B1 5; clear B1 hb1 hSu; cases b1 with
   | false =>
     go_wp2_with fail; go_ret; exact ⟨by rw [hR.out]; rfl, HB.out⟩
   | true =>
     go_wp2_with fail; refine (hI.out _ HB.out).mono ?_; rintro e w2 ⟨rfl, hb2⟩; have HB2 := hide (HB.out.trans (hb2.mono HB.out.size)); have q4 := (hb2.cell (p := ⟨w.heap.size, 4, none⟩) (by exact hsz)).trans p4
     have q5 := (hb2.cell (p := ⟨w.heap.size, 5, none⟩) (by exact hsz)).trans p5
     have hsz2 := Nat.lt_of_lt_of_le hsz hb2.size; clear hb2 hI p3 p4 p5; cases b2 with
     | false =>
       go_wp2_with fail; go_ret; exact ⟨by rw [hR.out]; rfl, HB2.out⟩
     | true =>
       go_wp2_with fail; refine (hD.out _ HB2.out).mono ?_; rintro e w3 ⟨rfl, hb3⟩; have HB3 := hide (HB2.out.trans (hb3.mono HB2.out.size)); have r5 := (hb3.cell (p := ⟨w.heap.size, 5, none⟩) (by exact hsz2)).trans q5
       clear hb3 hD q4 q5; cases b3 with
       | false =>
         go_wp2_with fail; go_ret; exact ⟨by rw [hR.out]; rfl, HB3.out⟩
       | true =>
         go_wp2_with fail; refine (hM.out _ HB3.out).mono ?_; rintro e w4 ⟨rfl, hb4⟩; have HB4 := hide (HB3.out.trans (hb4.mono HB3.out.size)); clear hb4 hM r5; go_wp2_with fail; go_ret; exact ⟨by rw [hR.out]; simp, HB4.out⟩
theorem eachK_any (l : List Pp.XCls) (v : Value) (most : Nat) (hmost : most <= 1000) (w : World) (ht : TabS w) (h : RowX w 6 (ClsX w) v l) (hl : l.length <= maxLen) :
 Calls Tryz.prog 74 #[v, .int .i64 (most : Int), .func (.func 75) #[] #[]] w fun e w' => e = .returned (.bool (Pp.eachB l most Pp.clsB)) /\ Below w.heap.size w w' := by
 obtain ⟨a, c, rfl, hc, hr⟩ := h; have hC := hide (fun (x : Pp.XCls) (ys : List Value) (hx : ClsX w x ys) w' (hb : Below w.heap.size w w') => isClass_any x ys w' (ht.below hb) (hx.on hb)); clear ht; unfold maxLen at hl; obtain ⟨len, hlen⟩ : ∃ len, len = l.length := ⟨_, rfl⟩; have HL := hide hlen; rw [<- hlen] at hl hc ⊢; clear hlen; have HR := hide hr; clear hr; by_cases hm : most < len
 · have hR : Hid (Pp.eachB l most Pp.clsB = false) := hide (by unfold Pp.eachB; rw [<- HL.out]; simp; omega)
   go_enter Tryz.func74, Tryz.ntmps74; go_wp2_with fail; go_ret; exact ⟨by rw [hR.out]; rfl, Below.refl _ _⟩
 · have hR : Hid (Pp.eachB l most Pp.clsB = l.all Pp.clsB) := hide (by unfold Pp.eachB; rw [<- HL.out]; simp; omega)
   rw [hR.out]; clear hR; go_enter Tryz.func74, Tryz.ntmps74; go_wp2_with fail
   go_loopw [15] (fun i wr => ∃ k : Nat, k <= len /\ i = .int .i64 k /\ Below w.heap.size w wr /\ Hid ((l.take k).all Pp.clsB = true)) (fun i _ => len - (intOf i).toNat)
   case atStart => exact ⟨0, Nat.zero_le _, rfl, Below.refl _ _, rfl⟩
   case round =>
    obtain ⟨k, hk, rfl, hbel, hal⟩ := hrel; by_cases hlt : k < len
    · have hco : k < l.length := by rw [<- HL.out]; exact hlt
      rcases HR.out with h0 | ⟨b, o, rfl, hb1, hc1⟩
      · rw [h0] at hco; simp at hco
      obtain ⟨x, hx⟩ : ∃ x, l[k]? = some x := ⟨l[k]'hco, List.getElem?_eq_getElem _⟩; obtain ⟨ys, e1, g1⟩ := hc1 k x hx
      have hstep : Hid ((l.take (k + 1)).all Pp.clsB = Pp.clsB x) := hide (by
       rw [List.take_add_one, List.all_append, hal.out, hx]; simp)
      have hmem : Hid (Pp.clsB x = false -> l.all Pp.clsB = false) := hide (fun h => by
       rw [List.all_eq_false]; exact ⟨x, List.mem_of_getElem? hx, by rw [h]; exact Bool.false_ne_true⟩)
      have hG := hide g1; have HC := hide (fun wq (hq : Below wr.heap.size wr wq) => hC.out x ys e1 wq (hbel.trans (hq.mono hbel.size))); clear hc1 HR hx hco hal hC g1; obtain ⟨vp, vc, vk, rfl, x1, x2, x3, x4⟩ := e1; obtain ⟨pa, pc, rfl, _⟩ := x1.len; obtain ⟨ca, cc, rfl, _⟩ := x2.len; obtain ⟨ka, kc, rfl, _⟩ := x3.len; clear x1 x2 x3 x4; have r0 := (hbel.cell (by exact hb1)).trans (hG.out 0 _ rfl)
      have r1 := (hbel.cell (by exact hb1)).trans (hG.out 1 _ rfl)
      have r2 := (hbel.cell (by exact hb1)).trans (hG.out 2 _ rfl)
      have r3 := (hbel.cell (by exact hb1)).trans (hG.out 3 _ rfl)
      have r4 := (hbel.cell (by exact hb1)).trans (hG.out 4 _ rfl)
      have r5 := (hbel.cell (by exact hb1)).trans (hG.out 5 _ rfl)
      rw [Nat.add_zero] at r0; clear hG; simp only [clsXL, List.toArray] at HC; generalize (⟨x.name.toArray⟩ : ByteArray) = y0 at *
      generalize x.iface = y1 at *
      generalize (⟨x.super.toArray⟩ : ByteArray) = y2 at *
      generalize x.ifaces.length = n1 at *
      generalize x.fields.length = n2 at *
      generalize x.methods.length = n3 at *
      generalize Pp.clsB x = R at *
      have hlt' : (k : Int) < (len : Int) := by omega
      cases R with
      | false =>
        go_wp2_with fail; refine (HC.out _ ((Below.refl _ _).alloc (Nat.le_refl _) _)).mono ?_; rintro e wq ⟨rfl, hbq⟩; have HQ := hide (hbel.trans ((((Below.refl _ _).alloc (Nat.le_refl _) _).trans (hbq.mono (by simp))).mono hbel.size))
        clear HC hbq; go_wp2_with fail; go_ret; exact ⟨by rw [hmem.out trivial]; rfl, HQ.out⟩
      | true =>
        go_wp2_with fail; refine (HC.out _ ((Below.refl _ _).alloc (Nat.le_refl _) _)).mono ?_; rintro e wq ⟨rfl, hbq⟩; have HQ := hide (hbel.trans ((((Below.refl _ _).alloc (Nat.le_refl _) _).trans (hbq.mono (by simp))).mono hbel.size))
        clear HC hbq; go_wp2_with fail
        go_roundw
        case rel => exact ⟨k + 1, by omega, by go_num, HQ.out, hstep⟩
        case measure => simp [intOf]; omega
    · have hN : Hid (l.all Pp.clsB = true) := hide (by rw [<- hal.out, List.take_of_length_le (by have := HL.out; omega)])
      go_wp2_with fail; go_ret; exact ⟨by rw [hN.out]; rfl, hbel⟩
theorem Check_any (cs : List Pp.XCls) (v : Value) (w : World) (ht : TabS w) (h : ProgX w v cs) :
 Calls Tryz.prog 61 #[.agg #[v]] w fun e w' => e = .returned (.int .i64 (if Pp.progB cs = true then 0 else 4)) /\ Below w.heap.size w w' := by
 have hC := hide (fun w' (hb : Below w.heap.size w w') => eachK_any cs v 10 (by omega) w' (ht.below hb) (h.1.on hb fun _ _ h => h.on hb) h.2)
 obtain ⟨pa, pc, rfl, _⟩ := h.1.len; clear h ht; have hR : Hid (Pp.progB cs = Pp.eachB cs 10 Pp.clsB) := rfl; rw [hR.out]; clear hR; generalize Pp.eachB cs 10 Pp.clsB = b0 at *
 generalize cs.length = n1 at *
 cases b0 with
 | false =>
   go_enter Tryz.func61, Tryz.ntmps61; go_wp2_with fail; refine (hC.out _ ((Below.refl _ _).alloc (Nat.le_refl _) _)).mono ?_; rintro e w1 ⟨rfl, hb1⟩; obtain ⟨B1, HB, hsz⟩ := box_one hb1; have HB := hide HB; clear B1 hb1 hC; go_wp2_with fail; go_ret; exact ⟨rfl, HB.out⟩
 | true =>
   go_enter Tryz.func61, Tryz.ntmps61; go_wp2_with fail; refine (hC.out _ ((Below.refl _ _).alloc (Nat.le_refl _) _)).mono ?_; rintro e w1 ⟨rfl, hb1⟩; obtain ⟨B1, HB, hsz⟩ := box_one hb1; have HB := hide HB; clear B1 hb1 hC; go_wp2_with fail; go_ret; exact ⟨rfl, HB.out⟩
end Go.Proofs.YtbbbnciejmdpfabGreatDoor
