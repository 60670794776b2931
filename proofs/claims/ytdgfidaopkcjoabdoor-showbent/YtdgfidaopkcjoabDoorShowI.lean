/- What show.each answers. -/
import Derived.Test.YtdgfidaopkcjoabDoorShowH
namespace Go.Proofs.YtdgfidaopkcjoabDoor
open Go.RowKit
set_option linter.unusedVariables false
set_option linter.unusedSimpArgs false

set_option maxRecDepth 100000 in
set_option maxHeartbeats 4000000 in
theorem eachK_any (l : List Pp.XCls) (v : Value) (most : Nat) (hmost : most ≤ 1000) (w : World) (ht : TabS w) (h : RowX w 6 (ClsX w) v l) (hl : l.length ≤ maxLen) :
    Calls Tryd.prog 17 #[v, .int .i64 (most : Int), .func (.func 18) #[] #[]] w fun e w' => e = .returned (.bool (Pp.eachB l most Pp.clsB)) ∧ Below w.heap.size w w' := by
  obtain ⟨a, c, rfl, hc, hr⟩ := h
  have hC := hide (fun (x : Pp.XCls) (ys : List Value) (hx : ClsX w x ys) w' (hb : Below w.heap.size w w') => isClass_any x ys w' (ht.below hb) (hx.on hb))
  clear ht
  unfold maxLen at hl
  obtain ⟨len, hlen⟩ : ∃ len, len = l.length := ⟨_, rfl⟩
  have HL := hide hlen
  rw [← hlen] at hl hc ⊢
  clear hlen
  have HR := hide hr
  clear hr
  by_cases hm : most < len
  · have hR : Hid (Pp.eachB l most Pp.clsB = false) := hide (by unfold Pp.eachB; rw [← HL.out]; simp; omega)
    go_enter Tryd.func17, Tryd.ntmps17
    go_wp2_with fail
    go_ret
    exact ⟨by rw [hR.out]; rfl, Below.refl _ _⟩
  · have hR : Hid (Pp.eachB l most Pp.clsB = l.all Pp.clsB) := hide (by unfold Pp.eachB; rw [← HL.out]; simp; omega)
    rw [hR.out]
    clear hR
    go_enter Tryd.func17, Tryd.ntmps17
    go_wp2_with fail
    go_loopw [15] (fun i wr => ∃ k : Nat, k ≤ len ∧ i = .int .i64 k ∧ Below w.heap.size w wr ∧ Hid ((l.take k).all Pp.clsB = true)) (fun i _ => len - (intOf i).toNat)
    case atStart => exact ⟨0, Nat.zero_le _, rfl, Below.refl _ _, rfl⟩
    case round =>
      obtain ⟨k, hk, rfl, hbel, hal⟩ := hrel
      by_cases hlt : k < len
      · have hco : k < l.length := by rw [← HL.out]; exact hlt
        rcases HR.out with h0 | ⟨b, o, rfl, hb1, hc1⟩
        · rw [h0] at hco; simp at hco
        obtain ⟨x, hx⟩ : ∃ x, l[k]? = some x := ⟨l[k]'hco, List.getElem?_eq_getElem _⟩
        obtain ⟨ys, e1, g1⟩ := hc1 k x hx
        have hstep : Hid ((l.take (k + 1)).all Pp.clsB = Pp.clsB x) := hide (by
          rw [List.take_add_one, List.all_append, hal.out, hx]; simp)
        have hmem : Hid (Pp.clsB x = false → l.all Pp.clsB = false) := hide (fun h => by
          rw [List.all_eq_false]; exact ⟨x, List.mem_of_getElem? hx, by rw [h]; exact Bool.false_ne_true⟩)
        have hG := hide g1
        have HC := hide (fun wq (hq : Below wr.heap.size wr wq) => hC.out x ys e1 wq (hbel.trans (hq.mono hbel.size)))
        clear hc1 HR hx hco hal hC g1
        obtain ⟨vp, vc, vk, rfl, x1, x2, x3, x4⟩ := e1
        obtain ⟨pa, pc, rfl, _⟩ := x1.len
        obtain ⟨ca, cc, rfl, _⟩ := x2.len
        obtain ⟨ka, kc, rfl, _⟩ := x3.len
        clear x1 x2 x3 x4
        have r0 := (hbel.cell (by exact hb1)).trans (hG.out 0 _ rfl)
        have r1 := (hbel.cell (by exact hb1)).trans (hG.out 1 _ rfl)
        have r2 := (hbel.cell (by exact hb1)).trans (hG.out 2 _ rfl)
        have r3 := (hbel.cell (by exact hb1)).trans (hG.out 3 _ rfl)
        have r4 := (hbel.cell (by exact hb1)).trans (hG.out 4 _ rfl)
        have r5 := (hbel.cell (by exact hb1)).trans (hG.out 5 _ rfl)
        rw [Nat.add_zero] at r0
        clear hG
        simp only [clsXL, List.toArray] at HC
        generalize (⟨x.name.toArray⟩ : ByteArray) = y0 at *
        generalize x.iface = y1 at *
        generalize (⟨x.super.toArray⟩ : ByteArray) = y2 at *
        generalize x.ifaces.length = n1 at *
        generalize x.fields.length = n2 at *
        generalize x.methods.length = n3 at *
        generalize Pp.clsB x = R at *
        have hlt' : (k : Int) < (len : Int) := by omega
        cases R with
        | false =>
          go_wp2_with fail
          refine (HC.out _ ((Below.refl _ _).alloc (Nat.le_refl _) _)).mono ?_
          rintro e wq ⟨rfl, hbq⟩
          have HQ := hide (hbel.trans ((((Below.refl _ _).alloc (Nat.le_refl _) _).trans (hbq.mono (by simp))).mono hbel.size))
          clear HC hbq
          go_wp2_with fail
          go_ret
          exact ⟨by rw [hmem.out trivial]; rfl, HQ.out⟩
        | true =>
          go_wp2_with fail
          refine (HC.out _ ((Below.refl _ _).alloc (Nat.le_refl _) _)).mono ?_
          rintro e wq ⟨rfl, hbq⟩
          have HQ := hide (hbel.trans ((((Below.refl _ _).alloc (Nat.le_refl _) _).trans (hbq.mono (by simp))).mono hbel.size))
          clear HC hbq
          go_wp2_with fail
          go_roundw
          case rel => exact ⟨k + 1, by omega, by go_num, HQ.out, hstep⟩
          case measure => simp [intOf]; omega
      · have hN : Hid (l.all Pp.clsB = true) := hide (by rw [← hal.out, List.take_of_length_le (by have := HL.out; omega)])
        go_wp2_with fail
        go_ret
        exact ⟨by rw [hN.out]; rfl, hbel⟩

set_option maxRecDepth 100000 in
set_option maxHeartbeats 4000000 in
theorem Check_any (cs : List Pp.XCls) (v : Value) (w : World) (ht : TabS w) (h : ProgX w v cs) :
    Calls Tryd.prog 10 #[.agg #[v]] w fun e w' => e = .returned (.int .i64 (if Pp.progB cs = true then 0 else 4)) ∧ Below w.heap.size w w' := by
  have hC := hide (fun w' (hb : Below w.heap.size w w') => eachK_any cs v 10 (by omega) w' (ht.below hb) (h.1.on hb fun _ _ h => h.on hb) h.2)
  obtain ⟨pa, pc, rfl, _⟩ := h.1.len
  clear h ht
  have hR : Hid (Pp.progB cs = Pp.eachB cs 10 Pp.clsB) := rfl
  rw [hR.out]
  clear hR
  generalize Pp.eachB cs 10 Pp.clsB = b0 at *
  generalize cs.length = n1 at *
  cases b0 with
  | false =>
    go_enter Tryd.func10, Tryd.ntmps10
    go_wp2_with fail
    refine (hC.out _ ((Below.refl _ _).alloc (Nat.le_refl _) _)).mono ?_
    rintro e w1 ⟨rfl, hb1⟩
    obtain ⟨B1, HB, hsz⟩ := box_one hb1
    have HB := hide HB
    clear B1 hb1 hC
    go_wp2_with fail
    go_ret
    exact ⟨rfl, HB.out⟩
  | true =>
    go_enter Tryd.func10, Tryd.ntmps10
    go_wp2_with fail
    refine (hC.out _ ((Below.refl _ _).alloc (Nat.le_refl _) _)).mono ?_
    rintro e w1 ⟨rfl, hb1⟩
    obtain ⟨B1, HB, hsz⟩ := box_one hb1
    have HB := hide HB
    clear B1 hb1 hC
    go_wp2_with fail
    go_ret
    exact ⟨rfl, HB.out⟩

end Go.Proofs.YtdgfidaopkcjoabDoor
