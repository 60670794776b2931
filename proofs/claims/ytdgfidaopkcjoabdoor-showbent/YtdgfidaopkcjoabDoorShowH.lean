/- What show.isSuper, isClass answer. -/
import Derived.Test.YtdgfidaopkcjoabDoorShowG
namespace Go.Proofs.YtdgfidaopkcjoabDoor
open Go.RowKit
set_option linter.unusedVariables false
set_option linter.unusedSimpArgs false

set_option maxRecDepth 100000 in
set_option maxHeartbeats 4000000 in
theorem isSuper_any (c : Pp.XCls) (ys : List Value) (w : World) (ht : TabS w) (h : ClsX w c ys) :
    Calls Tryd.prog 33 #[.agg ys.toArray] w fun e w' => e = .returned (.bool (Pp.supB c)) ∧ Below w.heap.size w w' := by
  obtain ⟨vp, vc, vk, rfl, x1, x2, x3, x4⟩ := h
  obtain ⟨n, ic, su, ifs, fs, ms⟩ := c
  simp only at x1 x2 x3 x4
  obtain ⟨y1, y2, y3, y4, y5⟩ := x4
  have hF := hide (fun w' (hb : Below w.heap.size w w') => fresh_any su y2 w' (ht.below hb))
  obtain ⟨pa, pc, rfl, _⟩ := x1.len
  obtain ⟨cq, cc, rfl, _⟩ := x2.len
  obtain ⟨kq, kc, rfl, _⟩ := x3.len
  clear x1 x2 x3 ht y1 y2 y3 y4 y5
  simp only [clsXL, List.toArray]
  have hR : Hid (Pp.supB ⟨n, ic, su, ifs, fs, ms⟩ = (su == [] || (!ic && Pp.freshB su))) := rfl
  generalize Pp.supB ⟨n, ic, su, ifs, fs, ms⟩ = R at *
  generalize Pp.freshB su = b0 at *
  generalize (⟨n.toArray⟩ : ByteArray) = S0 at *
  generalize ifs.length = n1 at *
  generalize fs.length = n2 at *
  generalize ms.length = n3 at *
  by_cases hs : su = []
  · subst hs
    clear hF
    go_enter Tryd.func33, Tryd.ntmps33
    go_wp2_with fail
    go_ret
    exact ⟨by rw [hR.out]; rfl, (Below.refl _ _).alloc (Nat.le_refl _) _⟩
  · have hne : (⟨su.toArray⟩ : ByteArray).toList.isEmpty = false := sh_nonempty su hs
    have hs2 : Hid ((su == []) = false) := hide (by cases su <;> simp_all)
    rw [hs2.out] at hR
    generalize (⟨su.toArray⟩ : ByteArray) = S1 at *
    clear hs hs2
    cases ic with
    | true =>
      go_enter Tryd.func33, Tryd.ntmps33
      go_wp2_with fail
      go_ret
      exact ⟨by rw [hR.out]; first | rfl | simp, (Below.refl _ _).alloc (Nat.le_refl _) _⟩
    | false =>
      go_enter Tryd.func33, Tryd.ntmps33
      go_wp2_with fail
      refine (hF.out _ ((Below.refl _ _).alloc (Nat.le_refl _) _)).mono ?_
      rintro e wq ⟨rfl, hwq⟩
      subst hwq
      go_wp2_with fail
      go_ret
      exact ⟨by rw [hR.out]; simp, (Below.refl _ _).alloc (Nat.le_refl _) _⟩

set_option maxRecDepth 100000 in
set_option maxHeartbeats 4000000 in
theorem isClass_any (c : Pp.XCls) (ys : List Value) (w : World) (ht : TabS w) (h : ClsX w c ys) :
    Calls Tryd.prog 18 #[.agg ys.toArray] w fun e w' => e = .returned (.bool (Pp.clsB c)) ∧ Below w.heap.size w w' := by
  have hSu := hide (fun w' (hb : Below w.heap.size w w') => isSuper_any c ys w' (ht.below hb) (h.on hb))
  obtain ⟨vp, vc, vk, rfl, x1, x2, x3, x4⟩ := h
  obtain ⟨y1, y2, y3, y4, y5⟩ := x4
  have hR : Hid (Pp.clsB c = (Pp.freshB c.name && (Pp.supB c && (Pp.eachB c.ifaces 4 Pp.freshB && (Pp.eachB c.fields 6 Pp.fldB && Pp.eachB c.methods 6 Pp.mthB))))) := rfl
  generalize Pp.clsB c = R at *
  generalize Pp.supB c = b1 at *
  obtain ⟨n, ic, su, ifs, fs, ms⟩ := c
  simp only at x1 x2 x3 y1 y2 y3 y4 y5 hR
  have hF := hide (fun w' (hb : Below w.heap.size w w') => fresh_any n y1 w' (ht.below hb))
  have hI := hide (fun w' (hb : Below w.heap.size w w') => eachS_any ifs vp 4 (by omega) w' (ht.below hb) (x1.on hb fun _ _ h => h) y3)
  have hD := hide (fun w' (hb : Below w.heap.size w w') => eachF_any fs vc 6 (by omega) w' (ht.below hb) (x2.on hb fun _ _ h => h) y4)
  have hM := hide (fun w' (hb : Below w.heap.size w w') => eachM_any ms vk 6 (by omega) w' (ht.below hb) (x3.on hb fun _ _ h => h.on hb) y5)
  obtain ⟨pa, pc, rfl, _⟩ := x1.len
  obtain ⟨cq, cc, rfl, _⟩ := x2.len
  obtain ⟨kq, kc, rfl, _⟩ := x3.len
  clear x1 x2 x3 ht y1 y2 y3 y4 y5
  simp only [clsXL, List.toArray] at hSu ⊢
  generalize (⟨n.toArray⟩ : ByteArray) = S0 at *
  generalize (⟨su.toArray⟩ : ByteArray) = S1 at *
  generalize Pp.freshB n = b0 at *
  generalize Pp.eachB ifs 4 Pp.freshB = b2 at *
  generalize Pp.eachB fs 6 Pp.fldB = b3 at *
  generalize Pp.eachB ms 6 Pp.mthB = b4 at *
  generalize ifs.length = n1 at *
  generalize fs.length = n2 at *
  generalize ms.length = n3 at *
  go_enter Tryd.func18, Tryd.ntmps18
  go_wp2_with fail
  refine (hF.out _ ((Below.refl _ _).alloc (Nat.le_refl _) _)).mono ?_
  rintro e wq ⟨rfl, hwq⟩
  subst hwq
  clear hF
  cases b0 with
  | false =>
    go_wp2_with fail
    go_ret
    exact ⟨by rw [hR.out]; rfl, (Below.refl _ _).alloc (Nat.le_refl _) _⟩
  | true =>
    go_wp2_with fail
    refine (hSu.out _ ((Below.refl _ _).alloc (Nat.le_refl _) _)).mono ?_
    rintro e w1 ⟨rfl, hb1⟩
    obtain ⟨B1, HB, hsz⟩ := box_one hb1
    have HB := hide HB
    have p3 : w1.cell? ⟨w.heap.size, 3, none⟩ = some (.slice pa n1 pc) := B1 3
    have p4 : w1.cell? ⟨w.heap.size, 4, none⟩ = some (.slice cq n2 cc) := B1 4
    have p5 : w1.cell? ⟨w.heap.size, 5, none⟩ = some (.slice kq n3 kc) := B1 5
    clear B1 hb1 hSu
    cases b1 with
    | false =>
      go_wp2_with fail
      go_ret
      exact ⟨by rw [hR.out]; rfl, HB.out⟩
    | true =>
      go_wp2_with fail
      refine (hI.out _ HB.out).mono ?_
      rintro e w2 ⟨rfl, hb2⟩
      have HB2 := hide (HB.out.trans (hb2.mono HB.out.size))
      have q4 := (hb2.cell (p := ⟨w.heap.size, 4, none⟩) (by exact hsz)).trans p4
      have q5 := (hb2.cell (p := ⟨w.heap.size, 5, none⟩) (by exact hsz)).trans p5
      have hsz2 := Nat.lt_of_lt_of_le hsz hb2.size
      clear hb2 hI p3 p4 p5
      cases b2 with
      | false =>
        go_wp2_with fail
        go_ret
        exact ⟨by rw [hR.out]; rfl, HB2.out⟩
      | true =>
        go_wp2_with fail
        refine (hD.out _ HB2.out).mono ?_
        rintro e w3 ⟨rfl, hb3⟩
        have HB3 := hide (HB2.out.trans (hb3.mono HB2.out.size))
        have r5 := (hb3.cell (p := ⟨w.heap.size, 5, none⟩) (by exact hsz2)).trans q5
        clear hb3 hD q4 q5
        cases b3 with
        | false =>
          go_wp2_with fail
          go_ret
          exact ⟨by rw [hR.out]; rfl, HB3.out⟩
        | true =>
          go_wp2_with fail
          refine (hM.out _ HB3.out).mono ?_
          rintro e w4 ⟨rfl, hb4⟩
          have HB4 := hide (HB3.out.trans (hb4.mono HB3.out.size))
          clear hb4 hM r5
          go_wp2_with fail
          go_ret
          exact ⟨by rw [hR.out]; simp, HB4.out⟩

end Go.Proofs.YtdgfidaopkcjoabDoor
