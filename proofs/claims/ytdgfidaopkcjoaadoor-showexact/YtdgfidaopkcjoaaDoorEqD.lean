/- What Classes, Program answer of any two. -/
import Derived.Test.YtdgfidaopkcjoaaDoorEqC
import Derived.Deep.RegionHeld
namespace Go.Proofs.YtdgfidaopkcjoaaDoor
open Go.RowKit
set_option linter.unusedVariables false
set_option linter.unusedSimpArgs false

set_option maxRecDepth 100000 in
set_option maxHeartbeats 8000000 in
theorem Classes_eq (l1 l2 : List Pp.XCls) (v1 v2 : Value) (w : World) (h1 : ProgX w v1 l1) (h2 : ProgX w v2 l2) (b1 : Pp.Light l1) (b2 : Pp.Light l2) :
    Calls Tryd.prog 29 #[v1, v2] w fun e w' => Eq.Is l1 l2 e ∧ Below w.heap.size w w' := by
  obtain ⟨a1, c1, rfl, _⟩ := h1.1.len
  obtain ⟨a2, c2, rfl, _⟩ := h2.1.len
  have H1 := hide h1.1
  have H2 := hide h2.1
  have HL1 := hide b1.2
  have HL2 := hide b2.2
  have n1 := b1.1
  have n2 := b2.1
  obtain ⟨m1, hm1⟩ : ∃ m, m = l1.length := ⟨_, rfl⟩
  obtain ⟨m2, hm2⟩ : ∃ m, m = l2.length := ⟨_, rfl⟩
  have HM1 := hide hm1
  have HM2 := hide hm2
  rw [← hm1] at H1 n1 ⊢
  rw [← hm2] at H2 n2 ⊢
  clear h1 h2 hm1 hm2 b1 b2
  by_cases hne : m1 = m2
  · subst hne
    have HB0 : Hid (Below w.heap.size w w) := hide (Below.refl _ _)
    go_enter Tryd.func29, Tryd.ntmps29
    go_wp2_with fail
    go_loopw [5] (fun i wr => ∃ k : Nat, k ≤ m1 ∧ i = .int .i64 k ∧ Below w.heap.size w wr ∧ Hid (l1.take k = l2.take k)) (fun i _ => m1 - (intOf i).toNat)
    case atStart => exact ⟨0, Nat.zero_le _, rfl, Below.refl _ _, rfl⟩
    case round =>
      obtain ⟨kA, hkA, rfl, hbA, HTA⟩ := hrel
      have HWA := hide (HB0.out.trans (hbA.mono HB0.out.size))
      by_cases hltA : kA < m1
      · obtain ⟨x, hx⟩ : ∃ x, l1[kA]? = some x := ⟨l1[kA]'(by rw [← HM1.out]; exact hltA), List.getElem?_eq_getElem _⟩
        obtain ⟨y, hy⟩ : ∃ y, l2[kA]? = some y := ⟨l2[kA]'(by rw [← HM2.out]; exact hltA), List.getElem?_eq_getElem _⟩
        obtain ⟨g1, o1, rfl, ys1, w1', hc1⟩ := Eq.row_at H1.out hx
        obtain ⟨g2, o2, rfl, ys2, w2', hc2⟩ := Eq.row_at H2.out hy
        have hG1 := hide (hc1 wr HWA.out)
        have hG2 := hide (hc2 wr HWA.out)
        have HC := hide (fun wx (hb : Below wr.heap.size wr wx) => Class_eq x y ys1 ys2 wx (w1'.on (HWA.out.trans (hb.mono HWA.out.size))) (w2'.on (HWA.out.trans (hb.mono HWA.out.size))) (HL1.out x (List.mem_of_getElem? hx)) (HL2.out y (List.mem_of_getElem? hy)))
        obtain ⟨vp1, vc1, vk1, rfl, x1, x2, x3, _⟩ := w1'
        obtain ⟨vp2, vc2, vk2, rfl, x4, x5, x6, _⟩ := w2'
        obtain ⟨va1, vd1, rfl, _⟩ := x1.len
        obtain ⟨va2, vd2, rfl, _⟩ := x2.len
        obtain ⟨va3, vd3, rfl, _⟩ := x3.len
        obtain ⟨va4, vd4, rfl, _⟩ := x4.len
        obtain ⟨va5, vd5, rfl, _⟩ := x5.len
        obtain ⟨va6, vd6, rfl, _⟩ := x6.len
        have hsAx := hbA.size
        have HKK : Hid (∀ wx, Below wr.heap.size wr wx → wx.cell? ⟨g1, o1 + kA * 6, none⟩ = some (.string ⟨x.name.toArray⟩) ∧ wx.cell? ⟨g1, o1 + kA * 6 + 1, none⟩ = some (.bool x.iface) ∧ wx.cell? ⟨g1, o1 + kA * 6 + 2, none⟩ = some (.string ⟨x.super.toArray⟩) ∧ wx.cell? ⟨g1, o1 + kA * 6 + 3, none⟩ = some (.slice va1 x.ifaces.length vd1) ∧ wx.cell? ⟨g1, o1 + kA * 6 + 4, none⟩ = some (.slice va2 x.fields.length vd2) ∧ wx.cell? ⟨g1, o1 + kA * 6 + 5, none⟩ = some (.slice va3 x.methods.length vd3) ∧ wx.cell? ⟨g2, o2 + kA * 6, none⟩ = some (.string ⟨y.name.toArray⟩) ∧ wx.cell? ⟨g2, o2 + kA * 6 + 1, none⟩ = some (.bool y.iface) ∧ wx.cell? ⟨g2, o2 + kA * 6 + 2, none⟩ = some (.string ⟨y.super.toArray⟩) ∧ wx.cell? ⟨g2, o2 + kA * 6 + 3, none⟩ = some (.slice va4 y.ifaces.length vd4) ∧ wx.cell? ⟨g2, o2 + kA * 6 + 4, none⟩ = some (.slice va5 y.fields.length vd5) ∧ wx.cell? ⟨g2, o2 + kA * 6 + 5, none⟩ = some (.slice va6 y.methods.length vd6)) := hide fun wx hb => ⟨hc1 wx (HWA.out.trans (hb.mono HWA.out.size)) 0 _ rfl, hc1 wx (HWA.out.trans (hb.mono HWA.out.size)) 1 _ rfl, hc1 wx (HWA.out.trans (hb.mono HWA.out.size)) 2 _ rfl, hc1 wx (HWA.out.trans (hb.mono HWA.out.size)) 3 _ rfl, hc1 wx (HWA.out.trans (hb.mono HWA.out.size)) 4 _ rfl, hc1 wx (HWA.out.trans (hb.mono HWA.out.size)) 5 _ rfl, hc2 wx (HWA.out.trans (hb.mono HWA.out.size)) 0 _ rfl, hc2 wx (HWA.out.trans (hb.mono HWA.out.size)) 1 _ rfl, hc2 wx (HWA.out.trans (hb.mono HWA.out.size)) 2 _ rfl, hc2 wx (HWA.out.trans (hb.mono HWA.out.size)) 3 _ rfl, hc2 wx (HWA.out.trans (hb.mono HWA.out.size)) 4 _ rfl, hc2 wx (HWA.out.trans (hb.mono HWA.out.size)) 5 _ rfl⟩
        have hDD : Hid (Below wr.heap.size wr wr.drew) := hide (Below.drew (Below.refl _ _))
        have r0 := hG1.out 0 _ rfl
        have s0 := hG2.out 0 _ rfl
        have r1 := hG1.out 1 _ rfl
        have s1 := hG2.out 1 _ rfl
        have r2 := hG1.out 2 _ rfl
        have s2 := hG2.out 2 _ rfl
        have r3 := hG1.out 3 _ rfl
        have s3 := hG2.out 3 _ rfl
        have r4 := hG1.out 4 _ rfl
        have s4 := hG2.out 4 _ rfl
        have r5 := hG1.out 5 _ rfl
        have s5 := hG2.out 5 _ rfl
        rw [Nat.add_zero] at r0 s0
        have HX := hide hx
        have HY := hide hy
        clear hc1 hc2 hx hy hG1 hG2 x1 x2 x3 x4 x5 x6
        have hltA' : (kA : Int) < (m1 : Int) := by omega
        simp only [clsXL, List.toArray] at HC
        have HBEL := hide hbA
        have HSI := hide (Eq.take_step (x := x) HTA.out HX.out)
        have HNI := hide (Eq.ne_at (k := kA) HX.out HY.out)
        by_cases u : x = y
        · have HCt := hide (fun wx hb => (HC.out wx hb).mono (fun e w' h => And.intro (h.1.yes' u) h.2))
          have HS := hide (HSI.out (by rw [u]; exact HY.out))
          clear HC HSI HNI hbA u HX HY HKK
          go_wp2_with fail
          go_region_with (go_at_call 52; refine (HCt.out _ (by first | exact Below.refl _ _ | exact below_drewN (Below.refl _ _) _ | exact Below.drew (Below.refl _ _))).mono ?_; rintro e w5 ⟨rfl, hb5⟩; have HB5 : Hid (Below wr.heap.size wr w5) := hide ((by first | exact Below.drew (Below.refl _ _) | exact below_drewN (Below.refl _ _) _ : Below wr.heap.size wr _).trans (hb5.mono (Nat.le_refl _))); clear hb5)
          all_goals (go_wp2_with fail; go_roundw)
          all_goals first | exact ⟨kA + 1, by omega, by go_num, HBEL.out.trans (HB5.out.mono HBEL.out.size), HS⟩ | (simp [intOf]; omega)
        · have HCt := hide (fun wx hb => (HC.out wx hb).mono (fun e w' h => And.intro (h.1.no' u) h.2))
          have HN := hide (HNI.out u)
          clear HC HSI HNI hbA u HX HY HKK
          go_wp2_with fail
          go_region_with (go_at_call 52; refine (HCt.out _ (by first | exact Below.refl _ _ | exact below_drewN (Below.refl _ _) _ | exact Below.drew (Below.refl _ _))).mono ?_; rintro e w5 ⟨rfl, hb5⟩; have HB5 : Hid (Below wr.heap.size wr w5) := hide ((by first | exact Below.drew (Below.refl _ _) | exact below_drewN (Below.refl _ _) _ : Below wr.heap.size wr _).trans (hb5.mono (Nat.le_refl _))); clear hb5)
          all_goals (go_wp2_with fail; go_ret)
          all_goals exact ⟨Eq.no HN.out, HWA.out.trans (HB5.out.mono HWA.out.size)⟩
      · have HEA := hide (Eq.take_end HTA.out (by rw [← HM1.out]; omega) (by rw [← HM2.out]; omega))
        go_wp2_with fail
        go_ret
        exact ⟨Eq.yes HEA.out, hbA⟩
  · have hne' : ((m1 : Int) != (m2 : Int)) = true := by simp; omega
    have HN : Hid (l1 ≠ l2) := hide (fun e => hne (by rw [HM1.out, HM2.out, e]))
    go_enter Tryd.func29, Tryd.ntmps29
    go_wp2_with fail
    go_ret
    exact ⟨Eq.no HN.out, Below.refl _ _⟩

set_option maxHeartbeats 4000000 in
theorem Program_eq (l1 l2 : List Pp.XCls) (v1 v2 : Value) (w : World) (h1 : ProgX w v1 l1) (h2 : ProgX w v2 l2) (b1 : Pp.Light l1) (b2 : Pp.Light l2) :
    Calls Tryd.prog 14 #[.agg #[v1], .agg #[v2]] w fun e w' => Eq.Is l1 l2 e ∧ Below w.heap.size w w' := by
  have hC := hide (fun w' (hb : Below w.heap.size w w') => Classes_eq l1 l2 v1 v2 w' (h1.on hb) (h2.on hb) b1 b2)
  obtain ⟨a1, c1, rfl, _⟩ := h1.1.len
  obtain ⟨a2, c2, rfl, _⟩ := h2.1.len
  clear h1 h2 b1 b2
  go_enter Tryd.func14, Tryd.ntmps14
  go_wp2_with fail
  refine (hC.out _ (((Below.refl _ _).alloc (Nat.le_refl _) _).alloc (by simp) _)).mono ?_
  rintro e w1 ⟨⟨b, rfl, hb⟩, hb1⟩
  have hB := (box_two hb1).2.2
  have HI : Hid (Eq.Is l1 l2 (.returned (.bool b))) := hide ⟨b, rfl, hb⟩
  clear hb1 hC hb
  go_wp2_with fail
  go_ret
  exact ⟨HI.out, hB⟩

end Go.Proofs.YtdgfidaopkcjoaaDoor
