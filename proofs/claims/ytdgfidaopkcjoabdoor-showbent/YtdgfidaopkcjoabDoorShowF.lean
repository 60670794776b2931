/- What show.isBody, isMethod answer. -/
import Derived.Test.YtdgfidaopkcjoabDoorShowE2
namespace Go.Proofs.YtdgfidaopkcjoabDoor
open Go.RowKit
set_option linter.unusedVariables false
set_option linter.unusedSimpArgs false

set_option maxRecDepth 100000 in
set_option maxHeartbeats 4000000 in
theorem isBody_any (m : Pp.XMth) (ys : List Value) (w : World) (ht : TabS w) (h : MthX w m ys) :
    Calls Tryd.prog 51 #[.agg ys.toArray] w fun e w' => e = .returned (.bool (Pp.bodyB m)) ∧ Below w.heap.size w w' := by
  obtain ⟨vp, vc, vk, rfl, x1, x2, x3, x4⟩ := h
  obtain ⟨n, st, ab, ps, rt, lo, co, ca⟩ := m
  simp only at x1 x2 x3 x4
  obtain ⟨y1, y2, y3, y4, y5⟩ := x4
  have hC := hide (fun w' (hb : Below w.heap.size w w') => eachI_any co vc 48 (by omega) w' (ht.below hb) (x2.on hb fun _ _ h => h) y4)
  have hK := hide (fun w' (hb : Below w.heap.size w w') => eachC_any ca vk 4 (by omega) w' (ht.below hb) (x3.on hb fun _ _ h => h) y5)
  have hW := hide (fun w => within_any lo 0 8 w)
  obtain ⟨pa, pc, rfl, _⟩ := x1.len
  obtain ⟨cq, cc, rfl, _⟩ := x2.len
  obtain ⟨kq, kc, rfl, _⟩ := x3.len
  clear x1 x2 x3 ht
  simp only [mthXL, List.toArray]
  generalize (⟨n.toArray⟩ : ByteArray) = S0 at *
  generalize (⟨rt.name.toArray⟩ : ByteArray) = S1 at *
  cases ab with
  | true =>
    have hR : Hid (Pp.bodyB ⟨n, st, true, ps, rt, lo, co, ca⟩ = (lo == 0 && (co.isEmpty && ca.isEmpty))) := rfl
    generalize Pp.bodyB ⟨n, st, true, ps, rt, lo, co, ca⟩ = R at *
    have e1 : Hid (co.isEmpty = (((co.length : Nat) : Int) == 0)) := hide (by cases co <;> simp; omega)
    have e2 : Hid (ca.isEmpty = (((ca.length : Nat) : Int) == 0)) := hide (by cases ca <;> simp; omega)
    rw [e1.out, e2.out] at hR
    clear hC hK hW e1 e2
    generalize co.length = n1 at *
    generalize ca.length = n2 at *
    unfold maxLen at y4 y5
    by_cases h1 : lo = 0
    · subst h1
      by_cases h2 : n1 = 0
      · subst h2
        go_enter Tryd.func51, Tryd.ntmps51
        go_wp2_with fail
        go_ret
        exact ⟨by rw [hR.out]; simp, (Below.refl _ _).alloc (Nat.le_refl _) _⟩
      · have h2' : ((n1 : Int) == 0) = false := by simp; omega
        go_enter Tryd.func51, Tryd.ntmps51
        go_wp2_with fail
        go_ret
        exact ⟨by rw [hR.out, h2']; rfl, (Below.refl _ _).alloc (Nat.le_refl _) _⟩
    · have h1' : (lo == 0) = false := by simpa using h1
      go_enter Tryd.func51, Tryd.ntmps51
      go_wp2_with fail
      go_ret
      exact ⟨by rw [hR.out, h1']; rfl, (Below.refl _ _).alloc (Nat.le_refl _) _⟩
  | false =>
    have hR : Hid (Pp.bodyB ⟨n, st, false, ps, rt, lo, co, ca⟩ = (Pp.withinB lo 0 8 && (Pp.eachB co 48 Pp.insB && Pp.eachB ca 4 Pp.ctcB))) := rfl
    generalize Pp.bodyB ⟨n, st, false, ps, rt, lo, co, ca⟩ = R at *
    generalize Pp.withinB lo 0 8 = b0 at *
    generalize Pp.eachB co 48 Pp.insB = b1 at *
    generalize Pp.eachB ca 4 Pp.ctcB = b2 at *
    generalize co.length = n1 at *
    generalize ca.length = n2 at *
    generalize ps.length = n3 at *
    go_enter Tryd.func51, Tryd.ntmps51
    go_wp2_with fail
    refine (hW.out _).mono ?_
    rintro e wq ⟨rfl, hwq⟩
    subst hwq
    clear hW
    cases b0 with
    | false =>
      go_wp2_with fail
      go_ret
      exact ⟨by rw [hR.out]; rfl, (Below.refl _ _).alloc (Nat.le_refl _) _⟩
    | true =>
      go_wp2_with fail
      refine (hC.out _ ((Below.refl _ _).alloc (Nat.le_refl _) _)).mono ?_
      rintro e w1 ⟨rfl, hb1⟩
      obtain ⟨B1, HB, hsz⟩ := box_one hb1
      have p8 : w1.cell? ⟨w.heap.size, 8, none⟩ = some (.slice kq n2 kc) := B1 8
      have HB := hide HB
      clear B1 hb1 hC
      cases b1 with
      | false =>
        go_wp2_with fail
        go_ret
        exact ⟨by rw [hR.out]; rfl, HB.out⟩
      | true =>
        go_wp2_with fail
        refine (hK.out _ HB.out).mono ?_
        rintro e w2 ⟨rfl, hb2⟩
        have HB2 := hide (HB.out.trans (hb2.mono HB.out.size))
        clear hb2 hK p8
        go_wp2_with fail
        go_ret
        exact ⟨by rw [hR.out]; simp, HB2.out⟩

set_option maxRecDepth 100000 in
set_option maxHeartbeats 4000000 in
theorem isMethod_any (m : Pp.XMth) (ys : List Value) (w : World) (ht : TabS w) (h : MthX w m ys) :
    Calls Tryd.prog 38 #[.agg ys.toArray] w fun e w' => e = .returned (.bool (Pp.mthB m)) ∧ Below w.heap.size w w' := by
  have hBd := hide (fun w' (hb : Below w.heap.size w w') => isBody_any m ys w' (ht.below hb) (h.on hb))
  obtain ⟨vp, vc, vk, rfl, x1, x2, x3, x4⟩ := h
  obtain ⟨y1, y2, y3, y4, y5⟩ := x4
  have hR : Hid (Pp.mthB m = (Pp.freshB m.name && (Pp.eachB m.params 4 Pp.typeB && (Pp.typeB m.ret && Pp.bodyB m)))) := rfl
  generalize Pp.mthB m = R at *
  generalize Pp.bodyB m = b3 at *
  obtain ⟨n, st, ab, ps, rt, lo, co, ca⟩ := m
  simp only at x1 x2 x3 y1 y2 y3 hR
  have hF := hide (fun w' (hb : Below w.heap.size w w') => fresh_any n y1 w' (ht.below hb))
  have hP := hide (fun w' (hb : Below w.heap.size w w') => eachT_any ps vp 4 (by omega) w' (ht.below hb) (x1.on hb fun _ _ h => h) y3)
  have hT := hide (fun w' (hb : Below w.heap.size w w') => isType_any rt y2 w' (ht.below hb))
  obtain ⟨pa, pc, rfl, _⟩ := x1.len
  obtain ⟨cq, cc, rfl, _⟩ := x2.len
  obtain ⟨kq, kc, rfl, _⟩ := x3.len
  clear x1 x2 x3 ht y1 y2 y3 y4 y5
  simp only [mthXL, List.toArray] at hBd ⊢
  generalize (⟨n.toArray⟩ : ByteArray) = S0 at *
  generalize (⟨rt.name.toArray⟩ : ByteArray) = S1 at *
  generalize Pp.freshB n = b0 at *
  generalize Pp.eachB ps 4 Pp.typeB = b1 at *
  generalize Pp.typeB rt = b2 at *
  generalize co.length = n1 at *
  generalize ca.length = n2 at *
  generalize ps.length = n3 at *
  generalize rt.kind = rk at *
  go_enter Tryd.func38, Tryd.ntmps38
  go_wp2_with fail
  refine (hF.out _ ((Below.refl _ _).alloc (Nat.le_refl _) _)).mono ?_
  rintro e wq ⟨rfl, hwq⟩
  subst hwq
  clear hF
  cases b0 with
  | false =>
    go_wp2_with fail
    go_ret
    exact ⟨by rw [hR.out]; rfl, (Below.refl _ _).alloc (Nat.le_refl _) _⟩
  | true =>
    go_wp2_with fail
    refine (hP.out _ ((Below.refl _ _).alloc (Nat.le_refl _) _)).mono ?_
    rintro e w1 ⟨rfl, hb1⟩
    obtain ⟨B1, HB, hsz⟩ := box_one hb1
    have HB := hide HB
    have HX := hide B1
    clear B1 hb1 hP
    cases b1 with
    | false =>
      go_wp2_with fail
      go_ret
      exact ⟨by rw [hR.out]; rfl, HB.out⟩
    | true =>
      have p4 : w1.cell? ⟨w.heap.size, 4, none⟩ = some (.int .i64 rk) := HX.out 4
      have p5 : w1.cell? ⟨w.heap.size, 5, none⟩ = some (.string S1) := HX.out 5
      go_wp2_with fail
      refine (hT.out _ HB.out).mono ?_
      rintro e w2 ⟨rfl, hb2⟩
      have HB2 := hide (HB.out.trans (hb2.mono HB.out.size))
      have HX2 := hide (fun k => (hb2.cell (p := ⟨w.heap.size, k, none⟩) (by exact hsz)).trans (HX.out k))
      clear hb2 hT p4 p5 HX
      cases b2 with
      | false =>
        go_wp2_with fail
        go_ret
        exact ⟨by rw [hR.out]; rfl, HB2.out⟩
      | true =>
        have p0 : w2.cell? ⟨w.heap.size, 0, none⟩ = some (.string S0) := HX2.out 0
        have p1 : w2.cell? ⟨w.heap.size, 1, none⟩ = some (.bool st) := HX2.out 1
        have p2 : w2.cell? ⟨w.heap.size, 2, none⟩ = some (.bool ab) := HX2.out 2
        have p3 : w2.cell? ⟨w.heap.size, 3, none⟩ = some (.slice pa n3 pc) := HX2.out 3
        have p4 : w2.cell? ⟨w.heap.size, 4, none⟩ = some (.int .i64 rk) := HX2.out 4
        have p5 : w2.cell? ⟨w.heap.size, 5, none⟩ = some (.string S1) := HX2.out 5
        have p6 : w2.cell? ⟨w.heap.size, 6, none⟩ = some (.int .i64 lo) := HX2.out 6
        have p7 : w2.cell? ⟨w.heap.size, 7, none⟩ = some (.slice cq n1 cc) := HX2.out 7
        have p8 : w2.cell? ⟨w.heap.size, 8, none⟩ = some (.slice kq n2 kc) := HX2.out 8
        clear HX2
        go_wp2_with fail
        refine (hBd.out _ HB2.out).mono ?_
        rintro e w3 ⟨rfl, hb3⟩
        have HB3 := hide (HB2.out.trans (hb3.mono HB2.out.size))
        clear hb3 hBd p0 p1 p2 p3 p4 p5 p6 p7 p8
        go_wp2_with fail
        go_ret
        exact ⟨by rw [hR.out]; simp, HB3.out⟩

end Go.Proofs.YtdgfidaopkcjoabDoor
