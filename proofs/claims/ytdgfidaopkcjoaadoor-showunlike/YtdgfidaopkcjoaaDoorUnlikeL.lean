/- ShowUnlike's walk. -/
import Derived.Test.YtdgfidaopkcjoaaDoorShowU
import Derived.Test.YtdgfidaopkcjoaaDoorHeavyX
import Derived.Test.YtdgfidaopkcjoaaDoorEqD
import Derived.Test.YtdgfidaopkcjoaaDoorEqB
import Derived.Test.YtdgfidaopkcjoaaDoorUnlikeP
import Derived.Deep.RegionHeld3
namespace Go.Proofs.YtdgfidaopkcjoaaDoor
open Go.RowKit
set_option linter.unusedVariables false
set_option linter.unusedSimpArgs false

def errT (cs : List Pp.XCls) : Int := if Pp.progB cs = true then (if (Pp.textX cs).length ≤ 6000 then 0 else 2) else 4
theorem errT_ok {cs : List Pp.XCls} (h : errT cs = 0) : Pp.progB cs = true ∧ (Pp.textX cs).length ≤ 6000 := by
  unfold errT at h
  split at h
  · split at h
    · exact ⟨by assumption, by assumption⟩
    · cases h
  · cases h

set_option maxRecDepth 100000 in
set_option maxHeartbeats 8000000 in
theorem unlike_walk (v1 : Value) (ps : List Pp.XCls) (v2 : Value) (qs : List Pp.XCls) (w : World) (ht : TabS w) (hp : Tab w) (hg : 3 < w.heap.size ∧ 2 < w.heap.size ∧ 0 < w.heap.size) (h1 : ProgX w v1 ps) (h2 : ProgX w v2 qs) :
    Calls Tryd.prog 4 #[.agg #[v1], .agg #[v2]] w fun e w' => e = .returned (.bool true) ∧ Below w.heap.size w w' := by
  have HT : Hid (Sh.Tabs w.heap.size w) := hide ⟨ht, hp, hg⟩
  clear ht hp hg
  have hV1 := hide (fun w' (hb : Below w.heap.size w w') => Heavy_any ps v1 w' (h1.on hb))
  have hV2 := hide (fun w' (hb : Below w.heap.size w w') => Heavy_any qs v2 w' (h2.on hb))
  have hT1 := hide (fun w' (hb : Below w.heap.size w w') => Text_any ps v1 w' (HT.out.on hb).ws (HT.out.on hb).pw (by have := (HT.out.on hb).hB; have := hb.size; omega) (h1.on hb))
  have hT2 := hide (fun w' (hb : Below w.heap.size w w') => Text_any qs v2 w' (HT.out.on hb).ws (HT.out.on hb).pw (by have := (HT.out.on hb).hB; have := hb.size; omega) (h2.on hb))
  have hWk : Hid (∀ w', Below w.heap.size w w' → Calls Tryd.prog 15 #[] w' fun e w'' => e = .returned (.bool true) ∧ Below w'.heap.size w' w'') := hide fun w' hb => by
    have ht := HT.out.on hb
    exact wakes_any w' ht.ws ht.pw (by have := ht.hB; have := hb.size; omega)
  have hPr := hide (fun (b1 : Pp.Light ps) (b2 : Pp.Light qs) w' (hb : Below w.heap.size w w') => Program_eq ps qs v1 v2 w' (h1.on hb) (h2.on hb) b1 b2)
  obtain ⟨a1, c1, rfl, _⟩ := h1.1.len
  obtain ⟨a2, c2, rfl, _⟩ := h2.1.len
  clear h1 h2
  generalize ps.length = n1 at *
  generalize qs.length = n2 at *
  have HB00 : Hid (∀ o o', Below w.heap.size w ((w.alloc o).alloc o')) := hide fun o o' => ((Below.refl _ _).alloc (Nat.le_refl _) _).alloc (by simp) _
  go_enter Tryd.func4, Tryd.ntmps4
  go_wp2_with fail
  refine (hV1.out _ (HB00.out _ _)).mono ?_
  rintro e w1 ⟨⟨b, rfl, hl1⟩, hb1⟩
  obtain ⟨B1, B2, hB⟩ := box_two hb1
  have hs1 := hb1.size
  simp at hs1
  have hz1 : w.heap.size < w1.heap.size := by omega
  have hz2 : w.heap.size + 1 < w1.heap.size := by omega
  have p0 : w1.cell? ⟨w.heap.size, 0, none⟩ = some (.slice a1 n1 c1) := B1 0
  have q0 : w1.cell? ⟨w.heap.size + 1, 0, none⟩ = some (.slice a2 n2 c2) := B2 0
  have HB1 := hide hB
  clear B1 B2 hb1 hB hV1 hs1 HB00
  cases b with
  | true =>
    go_wp2_with fail
    go_ret
    exact ⟨rfl, HB1.out⟩
  | false =>
    have HL1 := hide (hl1 rfl)
    clear hl1
    go_wp2_with fail
    refine (hV2.out _ HB1.out).mono ?_
    rintro e w2 ⟨⟨b, rfl, hl2⟩, hb2⟩
    have p2 := (hb2.cell (p := ⟨w.heap.size, 0, none⟩) (by exact hz1)).trans p0
    have q2 := (hb2.cell (p := ⟨w.heap.size + 1, 0, none⟩) (by exact hz2)).trans q0
    have hy1 := Nat.lt_of_lt_of_le hz1 hb2.size
    have hy2 := Nat.lt_of_lt_of_le hz2 hb2.size
    have HB2 := hide (HB1.out.trans (hb2.mono HB1.out.size))
    clear hb2 hV2 p0 q0 hz1 hz2 HB1
    cases b with
    | true =>
      go_wp2_with fail
      go_ret
      exact ⟨rfl, HB2.out⟩
    | false =>
      have HL2 := hide (hl2 rfl)
      clear hl2
      go_wp2_with fail
      refine (hT1.out _ HB2.out).mono ?_
      rintro e w3 ⟨⟨r1, rfl, hr1⟩, hb3⟩
      have p3 := (hb3.cell (p := ⟨w.heap.size, 0, none⟩) (by exact hy1)).trans p2
      have q3 := (hb3.cell (p := ⟨w.heap.size + 1, 0, none⟩) (by exact hy2)).trans q2
      have hx1 := Nat.lt_of_lt_of_le hy1 hb3.size
      have hx2 := Nat.lt_of_lt_of_le hy2 hb3.size
      have HB3 := hide (HB2.out.trans (hb3.mono HB2.out.size))
      clear hb3 hT1 p2 q2 hy1 hy2 HB2
      have HR1 := hide hr1
      clear hr1
      change Hid (if Pp.progB ps = true ∧ (Pp.textX ps).length ≤ 6000 then w3.ownsRow _ 5 1 r1 (Pp.textX ps).length ((Pp.textX ps).map Sh.byV) else r1 = .slice none 0 0) at HR1
      obtain ⟨er1, he1⟩ : ∃ er, er = errT ps := ⟨_, rfl⟩
      have HE1 := hide he1
      rw [show (if Pp.progB ps = true then (if (Pp.textX ps).length ≤ 6000 then (0 : Int) else 2) else 4) = er1 from he1.symm]
      clear he1
      obtain ⟨ra, rn, rc, hrv⟩ : ∃ a n c, r1 = .slice a n c := by
        have := HR1.out
        split at this
        · obtain ⟨a, c, e⟩ := Sh.own_shape this; exact ⟨a, _, c, e⟩
        · exact ⟨_, _, _, this⟩
      subst hrv
      go_wp2_with fail
      refine (hT2.out _ HB3.out).mono ?_
      rintro e w4 ⟨⟨r2, rfl, hr2⟩, hb4⟩
      have p4 := (hb4.cell (p := ⟨w.heap.size, 0, none⟩) (by exact hx1)).trans p3
      have q4 := (hb4.cell (p := ⟨w.heap.size + 1, 0, none⟩) (by exact hx2)).trans q3
      have hv1 := Nat.lt_of_lt_of_le hx1 hb4.size
      have hv2 := Nat.lt_of_lt_of_le hx2 hb4.size
      have HB4 := hide (HB3.out.trans (hb4.mono HB3.out.size))
      have H34 := hide hb4
      clear hb4 hT2 p3 q3 hx1 hx2 HB3
      have HR2 := hide hr2
      clear hr2
      change Hid (if Pp.progB qs = true ∧ (Pp.textX qs).length ≤ 6000 then w4.ownsRow _ 5 1 r2 (Pp.textX qs).length ((Pp.textX qs).map Sh.byV) else r2 = .slice none 0 0) at HR2
      obtain ⟨er2, he2⟩ : ∃ er, er = errT qs := ⟨_, rfl⟩
      have HE2 := hide he2
      rw [show (if Pp.progB qs = true then (if (Pp.textX qs).length ≤ 6000 then (0 : Int) else 2) else 4) = er2 from he2.symm]
      clear he2
      obtain ⟨sa, sn, sc, hsv⟩ : ∃ a n c, r2 = .slice a n c := by
        have := HR2.out
        split at this
        · obtain ⟨a, c, e⟩ := Sh.own_shape this; exact ⟨a, _, c, e⟩
        · exact ⟨_, _, _, this⟩
      subst hsv
      by_cases g1 : er1 = 0
      case neg =>
        have g1' : (er1 != 0) = true := by simpa using g1
        clear g1
        go_wp2_with fail
        refine (hWk.out _ HB4.out).mono ?_
        rintro e w5 ⟨rfl, hb5⟩
        have HB5 := hide (HB4.out.trans (hb5.mono HB4.out.size))
        clear hb5
        go_wp2_with fail
        go_ret
        exact ⟨rfl, HB5.out⟩
      by_cases g2 : er2 = 0
      case neg =>
        have g2' : (er2 != 0) = true := by simpa using g2
        subst g1
        clear g2
        go_wp2_with fail
        refine (hWk.out _ HB4.out).mono ?_
        rintro e w5 ⟨rfl, hb5⟩
        have HB5 := hide (HB4.out.trans (hb5.mono HB4.out.size))
        clear hb5
        go_wp2_with fail
        go_ret
        exact ⟨rfl, HB5.out⟩
      obtain ⟨o1, o2⟩ := errT_ok (HE1.out.symm.trans g1)
      obtain ⟨o3, o4⟩ := errT_ok (HE2.out.symm.trans g2)
      subst g1 g2
      have hr1 := HR1.out
      have hr2 := HR2.out
      rw [if_pos ⟨o1, o2⟩] at hr1
      rw [if_pos ⟨o3, o4⟩] at hr2
      have e1 : rn = (Pp.textX ps).length := by
        obtain ⟨x1, x2, e1⟩ := Sh.own_shape hr1
        injection e1
      have e2 : sn = (Pp.textX qs).length := by
        obtain ⟨x1, x2, e1⟩ := Sh.own_shape hr2
        injection e1
      subst e1 e2
      obtain ⟨B, hBq⟩ : ∃ B : Bool, B = true ↔ ps = qs := by
        by_cases h : ps = qs
        · exact ⟨true, fun _ => h, fun _ => rfl⟩
        · exact ⟨false, fun e => absurd e (by decide), fun e => absurd e h⟩
      have hBy : Hid (∀ w', Below w4.heap.size w4 w' → Calls Tryd.prog 17 #[.slice ra (Pp.textX ps).length rc, .slice sa (Pp.textX qs).length sc] w' fun e w'' => e = .returned (.bool B) ∧ Below w'.heap.size w' w'') := hide fun w' hb => by
        refine (Bytes_eq (Pp.textX ps) (Pp.textX qs) ra sa rc sc w' (by omega) (by omega) (((own_rowAt hr1).on H34.out).on hb) ((own_rowAt hr2).on hb)).mono ?_
        rintro e w'' ⟨⟨b, rfl, h⟩, h5⟩
        refine ⟨?_, h5⟩
        have : b = B := by
          rw [Bool.eq_iff_iff, h, hBq]
          exact ⟨fun e => Pp.text_inj o1 o3 o2 e, fun e => by rw [e]⟩
        rw [this]
      have hPg : Hid (∀ w', Below w4.heap.size w4 w' → Calls Tryd.prog 14 #[.agg #[.slice a1 n1 c1], .agg #[.slice a2 n2 c2]] w' fun e w'' => e = .returned (.bool B) ∧ Below w'.heap.size w' w'') := hide fun w' hb => by
        refine (hPr.out HL1.out HL2.out w' (HB4.out.trans (hb.mono HB4.out.size))).mono ?_
        rintro e w'' ⟨⟨b, rfl, h⟩, h5⟩
        refine ⟨?_, h5⟩
        have : b = B := by rw [Bool.eq_iff_iff, h, hBq]
        rw [this]
      clear hr1 hr2 HR1 HR2 hBq o1 o2 o3 o4 hPr
      generalize (Pp.textX ps).length = t1 at *
      generalize (Pp.textX qs).length = t2 at *
      go_wp2_with fail
      have hK : Hid (∀ wx, Below w4.heap.size w4 wx → wx.cell? ⟨w.heap.size, 0, none⟩ = some (.slice a1 n1 c1) ∧ wx.cell? ⟨w.heap.size + 1, 0, none⟩ = some (.slice a2 n2 c2)) := hide fun wx hx => ⟨(hx.cell (by exact hv1)).trans p4, (hx.cell (by exact hv2)).trans q4⟩
      have hD : Hid (Below w4.heap.size w4 w4.drew) := hide (Below.drew (Below.refl _ _))
      clear p4 q4
      cases B
      all_goals
        go_region_held3 (fun wx => wx.cell? ⟨w.heap.size, 0, none⟩ = some (.slice a1 n1 c1) ∧ wx.cell? ⟨w.heap.size + 1, 0, none⟩ = some (.slice a2 n2 c2)) (first | exact hK.out _ HB7.out | exact hK.out _ HB6.out | exact hK.out _ HB5.out | exact hK.out _ hD.out)
          (first
            | (go_at_call 17
               refine (hBy.out _ (by first | exact HB7.out | exact HB6.out | exact hD.out)).mono ?_
               rintro e w5 ⟨rfl, hb5⟩
               have HB5 : Hid (Below w4.heap.size w4 w5) := hide (by first | exact HB7.out.trans (hb5.mono HB7.out.size) | exact HB6.out.trans (hb5.mono HB6.out.size) | exact hD.out.trans (hb5.mono hD.out.size))
               clear hb5)
            | (go_at_call 14
               refine (hPg.out _ (by first | exact HB7.out | exact HB5.out | exact hD.out)).mono ?_
               rintro e w6 ⟨rfl, hb6⟩
               have HB6 : Hid (Below w4.heap.size w4 w6) := hide (by first | exact HB7.out.trans (hb6.mono HB7.out.size) | exact HB5.out.trans (hb6.mono HB5.out.size) | exact hD.out.trans (hb6.mono hD.out.size))
               clear hb6)
            | (go_at_call 15
               refine (hWk.out _ (by first | exact HB4.out.trans (HB6.out.mono HB4.out.size) | exact HB4.out.trans (HB5.out.mono HB4.out.size))).mono ?_
               rintro e w7 ⟨rfl, hb7⟩
               have HB7 : Hid (Below w4.heap.size w4 w7) := hide (by first | exact HB6.out.trans (hb7.mono HB6.out.size) | exact HB5.out.trans (hb7.mono HB5.out.size))
               clear hb7))
      all_goals
        have HBF := hide (HB4.out.trans (HB7.out.mono HB4.out.size))
        go_wp2_with fail
        go_ret
        exact ⟨rfl, HBF.out⟩

end Go.Proofs.YtdgfidaopkcjoaaDoor
