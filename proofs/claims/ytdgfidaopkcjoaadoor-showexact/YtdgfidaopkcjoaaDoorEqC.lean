/- What Class, Classes, Program answer of any two. -/
import Derived.Test.YtdgfidaopkcjoaaDoorEqM
import Derived.Deep.RegionHeld
namespace Go.Proofs.YtdgfidaopkcjoaaDoor
open Go.RowKit
set_option linter.unusedVariables false
set_option linter.unusedSimpArgs false

namespace Eq
theorem Is.yes' {α : Type} {x y : α} {e : Ending} (h : Is x y e) (hx : x = y) : e = .returned (.bool true) := by
  obtain ⟨b, rfl, hb⟩ := h
  rw [hb.2 hx]
theorem Is.no' {α : Type} {x y : α} {e : Ending} (h : Is x y e) (hx : x ≠ y) : e = .returned (.bool false) := by
  obtain ⟨b, rfl, hb⟩ := h
  cases b with
  | false => rfl
  | true => exact absurd (hb.1 rfl) hx
end Eq

set_option maxRecDepth 100000 in
set_option maxHeartbeats 16000000 in
theorem Class_eq (p q : Pp.XCls) (ys1 ys2 : List Value) (w : World) (h1 : ClsX w p ys1) (h2 : ClsX w q ys2) (b1 : Pp.LtC p) (b2 : Pp.LtC q) :
    Calls Tryd.prog 52 #[.agg ys1.toArray, .agg ys2.toArray] w fun e w' => Eq.Is p q e ∧ Below w.heap.size w w' := by
  obtain ⟨vp1, vc1, vk1, rfl, p1, i1, k1, z1⟩ := h1
  obtain ⟨vp2, vc2, vk2, rfl, p2, i2, k2, z2⟩ := h2
  have c1 := b1.1
  have c2 := b2.1
  have HL1 := hide b1.2.2.2
  have HL2 := hide b2.2.2.2
  obtain ⟨n1, st1, su1, ps1, co1, ca1⟩ := p
  obtain ⟨n2, st2, su2, ps2, co2, ca2⟩ := q
  simp only at p1 i1 k1 p2 i2 k2 c1 c2 HL1 HL2
  have HP := hide (fun w' (hb : Below w.heap.size w w') => Strings_eq ps1 ps2 vp1 vp2 w' (p1.on hb fun _ _ h => h) (p2.on hb fun _ _ h => h) (by omega) (by omega))
  obtain ⟨pa1, pc1, rfl, _⟩ := p1.len
  obtain ⟨pa2, pc2, rfl, _⟩ := p2.len
  obtain ⟨ca, cc, rfl, _⟩ := i1.len
  obtain ⟨da, dc, rfl, _⟩ := i2.len
  obtain ⟨ka, kc, rfl, _⟩ := k1.len
  obtain ⟨ea, ec, rfl, _⟩ := k2.len
  have HI1 := hide i1
  have HI2 := hide i2
  have HK1 := hide k1
  have HK2 := hide k2
  clear p1 p2 i1 i2 k1 k2 z1 z2 b1 b2
  simp only [clsXL, List.toArray]
  obtain ⟨m1, hm1⟩ : ∃ m, m = co1.length := ⟨_, rfl⟩
  obtain ⟨m2, hm2⟩ : ∃ m, m = co2.length := ⟨_, rfl⟩
  obtain ⟨j1, hj1⟩ : ∃ m, m = ca1.length := ⟨_, rfl⟩
  obtain ⟨j2, hj2⟩ : ∃ m, m = ca2.length := ⟨_, rfl⟩
  have HM1 := hide hm1
  have HM2 := hide hm2
  have HJ1 := hide hj1
  have HJ2 := hide hj2
  rw [← hm1] at HI1 ⊢
  rw [← hm2] at HI2 ⊢
  rw [← hj1] at HK1 ⊢
  rw [← hj2] at HK2 ⊢
  have l1 : m1 ≤ 14 := by rw [hm1]; exact c1.1
  have l2 : m2 ≤ 14 := by rw [hm2]; exact c2.1
  have l3 : j1 ≤ 14 := by rw [hj1]; exact c1.2.1
  have l4 : j2 ≤ 14 := by rw [hj2]; exact c2.2.1
  clear hm1 hm2 hj1 hj2 c1 c2
  have HB00 : Hid (∀ o o', Below w.heap.size w ((w.alloc o).alloc o')) := hide fun o o' => ((Below.refl _ _).alloc (Nat.le_refl _) _).alloc (by simp) _
  by_cases e1 : n1 = n2
  case neg =>
    have HN := hide (fun e : (⟨n1, st1, su1, ps1, co1, ca1⟩ : Pp.XCls) = ⟨n2, st2, su2, ps2, co2, ca2⟩ => e1 (congrArg Pp.XCls.name e))
    have e1' : (n1 == n2) = false := by simpa using e1
    go_enter Tryd.func52, Tryd.ntmps52
    go_wp2_with fail
    go_ret
    exact ⟨Eq.no HN.out, HB00.out _ _⟩
  subst e1
  by_cases e2 : st1 = st2
  case neg =>
    have HN := hide (fun e : (⟨n1, st1, su1, ps1, co1, ca1⟩ : Pp.XCls) = ⟨n1, st2, su2, ps2, co2, ca2⟩ => e2 (congrArg Pp.XCls.iface e))
    have e2' : (st1 == st2) = false := by simpa using e2
    generalize (⟨n1.toArray⟩ : ByteArray) = S1
    go_enter Tryd.func52, Tryd.ntmps52
    go_wp2_with fail
    go_ret
    exact ⟨Eq.no HN.out, HB00.out _ _⟩
  subst e2
  by_cases e3 : su1 = su2
  case neg =>
    have HN := hide (fun e : (⟨n1, st1, su1, ps1, co1, ca1⟩ : Pp.XCls) = ⟨n1, st1, su2, ps2, co2, ca2⟩ => e3 (congrArg Pp.XCls.super e))
    have e3' : (su1 == su2) = false := by simpa using e3
    generalize (⟨n1.toArray⟩ : ByteArray) = S1
    go_enter Tryd.func52, Tryd.ntmps52
    go_wp2_with fail
    go_ret
    exact ⟨Eq.no HN.out, HB00.out _ _⟩
  subst e3
  have HNE : Hid (∀ c2 k2 p2, (ps1 ≠ p2 ∨ co1 ≠ c2 ∨ ca1 ≠ k2) → (⟨n1, st1, su1, ps1, co1, ca1⟩ : Pp.XCls) ≠ ⟨n1, st1, su1, p2, c2, k2⟩) := hide (fun c2 k2 p2 h e => by
    injection e with _ _ _ g1 g4 g5
    rcases h with h | h | h
    · exact h g1
    · exact h g4
    · exact h g5)
  generalize (⟨n1.toArray⟩ : ByteArray) = S1
  generalize (⟨su1.toArray⟩ : ByteArray) = S2
  generalize ps1.length = t1 at *
  generalize ps2.length = t2 at *
  go_enter Tryd.func52, Tryd.ntmps52
  go_wp2_with fail
  refine (HP.out _ (HB00.out _ _)).mono ?_
  rintro e w1 ⟨⟨b, rfl, hb⟩, hb1⟩
  obtain ⟨B1, B2, hB⟩ := box_two hb1
  have hs1 := hb1.size
  simp at hs1
  have p7 : w1.cell? ⟨w.heap.size, 4, none⟩ = some (.slice ca m1 cc) := B1 4
  have p8 : w1.cell? ⟨w.heap.size, 5, none⟩ = some (.slice ka j1 kc) := B1 5
  have q7 : w1.cell? ⟨w.heap.size + 1, 4, none⟩ = some (.slice da m2 dc) := B2 4
  have q8 : w1.cell? ⟨w.heap.size + 1, 5, none⟩ = some (.slice ea j2 ec) := B2 5
  have HB1 := hide hB
  clear B1 B2 hb1 HP HB00 hB
  cases b with
  | false =>
    have HN := hide (HNE.out co2 ca2 ps2 (.inl (fun e => by have := hb.2 e; cases this)))
    go_wp2_with fail
    go_ret
    exact ⟨Eq.no HN.out, HB1.out⟩
  | true =>
    have hps := hb.1 rfl
    subst hps
    clear hb
    by_cases f4 : m1 = m2
    case neg =>
      have HN := hide (HNE.out co2 ca2 ps1 (.inr (.inl (fun e => f4 (by rw [HM1.out, HM2.out, e])))))
      have f4' : ((m1 : Int) == (m2 : Int)) = false := by simp; omega
      go_wp2_with fail
      go_ret
      exact ⟨Eq.no HN.out, HB1.out⟩
    subst f4
    by_cases f5 : j1 = j2
    case neg =>
      have HN := hide (HNE.out co2 ca2 ps1 (.inr (.inr (fun e => f5 (by rw [HJ1.out, HJ2.out, e])))))
      have f5' : ((j1 : Int) == (j2 : Int)) = false := by simp; omega
      go_wp2_with fail
      go_ret
      exact ⟨Eq.no HN.out, HB1.out⟩
    subst f5
    go_wp2_with fail
    go_loopw [5] (fun i wr => ∃ k : Nat, k ≤ m1 ∧ i = .int .i64 k ∧ Below w1.heap.size w1 wr ∧ Hid (co1.take k = co2.take k)) (fun i _ => m1 - (intOf i).toNat)
    case atStart => exact ⟨0, Nat.zero_le _, rfl, Below.refl _ _, rfl⟩
    case round =>
      obtain ⟨kA, hkA, rfl, hbA, HTA⟩ := hrel
      have HWA := hide (HB1.out.trans (hbA.mono HB1.out.size))
      have cA := (hbA.cell (p := ⟨w.heap.size, 4, none⟩) (by show w.heap.size < _; omega)).trans p7
      have dA := (hbA.cell (p := ⟨w.heap.size + 1, 4, none⟩) (by show w.heap.size + 1 < _; omega)).trans q7
      have eA := (hbA.cell (p := ⟨w.heap.size, 5, none⟩) (by show w.heap.size < _; omega)).trans p8
      have fA := (hbA.cell (p := ⟨w.heap.size + 1, 5, none⟩) (by show w.heap.size + 1 < _; omega)).trans q8
      by_cases hltA : kA < m1
      · obtain ⟨x, hx⟩ : ∃ x, co1[kA]? = some x := ⟨co1[kA]'(by rw [← HM1.out]; exact hltA), List.getElem?_eq_getElem _⟩
        obtain ⟨y, hy⟩ : ∃ y, co2[kA]? = some y := ⟨co2[kA]'(by rw [← HM2.out]; exact hltA), List.getElem?_eq_getElem _⟩
        obtain ⟨g1, o1, rfl, ys1, w1', hc1⟩ := Eq.row_at HI1.out hx
        obtain ⟨g2, o2, rfl, ys2, w2', hc2⟩ := Eq.row_at HI2.out hy
        obtain rfl : ys1 = _ := w1'.1
        obtain rfl : ys2 = _ := w2'.1
        have r0 := hc1 wr HWA.out 0 _ rfl
        have s0 := hc2 wr HWA.out 0 _ rfl
        have r1 := hc1 wr HWA.out 1 _ rfl
        have s1 := hc2 wr HWA.out 1 _ rfl
        have r2 := hc1 wr HWA.out 2 _ rfl
        have s2 := hc2 wr HWA.out 2 _ rfl
        have r3 := hc1 wr HWA.out 3 _ rfl
        have s3 := hc2 wr HWA.out 3 _ rfl
        rw [Nat.add_zero] at r0 s0
        have HX := hide hx
        have HY := hide hy
        clear hc1 hc2 hx hy w1' w2'
        have hltA' : (kA : Int) < (m1 : Int) := by omega
        obtain ⟨xo, ⟨xn, xa⟩, xb⟩ := x
        obtain ⟨yo, ⟨yn, ya⟩, yb⟩ := y
        simp only at r0 r1 r2 r3 s0 s1 s2 s3
        by_cases u : xo = yo
        case neg =>
          have HN := hide (HNE.out co2 ca2 ps1 (.inr (.inl (Eq.ne_at HX.out HY.out (fun e => u (congrArg Pp.Fld.name e))))))
          have u' : (xo == yo) = false := by simpa using u
          go_wp2_with fail
          go_quiet (fail)
          go_wp2_with fail
          go_ret
          exact ⟨Eq.no HN.out, by first | exact HWA.out | exact below_drewN HWA.out _⟩
        subst u
        by_cases u : xn = yn
        case neg =>
          have HN := hide (HNE.out co2 ca2 ps1 (.inr (.inl (Eq.ne_at HX.out HY.out (fun e => u (congrArg (fun f : Pp.Fld => f.ty.kind) e))))))
          have u' : (xn == yn) = false := by simpa using u
          go_wp2_with fail
          go_quiet (fail)
          go_wp2_with fail
          go_ret
          exact ⟨Eq.no HN.out, by first | exact HWA.out | exact below_drewN HWA.out _⟩
        subst u
        by_cases u : xa = ya
        case neg =>
          have HN := hide (HNE.out co2 ca2 ps1 (.inr (.inl (Eq.ne_at HX.out HY.out (fun e => u (congrArg (fun f : Pp.Fld => f.ty.name) e))))))
          have u' : (xa == ya) = false := by simpa using u
          go_wp2_with fail
          go_quiet (fail)
          go_wp2_with fail
          go_ret
          exact ⟨Eq.no HN.out, by first | exact HWA.out | exact below_drewN HWA.out _⟩
        subst u
        by_cases u : xb = yb
        case neg =>
          have HN := hide (HNE.out co2 ca2 ps1 (.inr (.inl (Eq.ne_at HX.out HY.out (fun e => u (congrArg Pp.Fld.stat e))))))
          have u' : (xb == yb) = false := by simpa using u
          go_wp2_with fail
          go_quiet (fail)
          go_wp2_with fail
          go_ret
          exact ⟨Eq.no HN.out, by first | exact HWA.out | exact below_drewN HWA.out _⟩
        subst u
        have HS := hide (Eq.take_step HTA.out HX.out HY.out)
        go_wp2_with fail
        go_quiet (fail)
        go_wp2_with fail
        go_roundw
        case rel => exact ⟨kA + 1, by omega, by go_num, by first | exact hbA | exact below_drewN hbA _, HS⟩
        case measure => simp [intOf]; omega
      · have HEA := hide (Eq.take_end HTA.out (by rw [← HM1.out]; omega) (by rw [← HM2.out]; omega))
        have hsA := hbA.size
        obtain ⟨wA, rfl⟩ : ∃ wA : World, wA = wr := ⟨_, rfl⟩
        go_wp2_with fail
        clear cA dA p7 q7 p8 q8 hkA hltA HTA hbA
        go_loopw [6] (fun i wr => ∃ k : Nat, k ≤ j1 ∧ i = .int .i64 k ∧ Below wA.heap.size wA wr ∧ Hid (ca1.take k = ca2.take k)) (fun i _ => j1 - (intOf i).toNat)
        case atStart => exact ⟨0, Nat.zero_le _, rfl, Below.refl _ _, rfl⟩
        case round =>
          obtain ⟨kB, hkB, rfl, hbB, HTB⟩ := hrel
          have HWB := hide (HWA.out.trans (hbB.mono HWA.out.size))
          have cB := (hbB.cell (p := ⟨w.heap.size, 5, none⟩) (by show w.heap.size < _; omega)).trans eA
          have dB := (hbB.cell (p := ⟨w.heap.size + 1, 5, none⟩) (by show w.heap.size + 1 < _; omega)).trans fA
          by_cases hltB : kB < j1
          · obtain ⟨x, hx⟩ : ∃ x, ca1[kB]? = some x := ⟨ca1[kB]'(by rw [← HJ1.out]; exact hltB), List.getElem?_eq_getElem _⟩
            obtain ⟨y, hy⟩ : ∃ y, ca2[kB]? = some y := ⟨ca2[kB]'(by rw [← HJ2.out]; exact hltB), List.getElem?_eq_getElem _⟩
            obtain ⟨g1, o1, rfl, ys1, w1', hc1⟩ := Eq.row_at HK1.out hx
            obtain ⟨g2, o2, rfl, ys2, w2', hc2⟩ := Eq.row_at HK2.out hy
            have hG1 := hide (hc1 wr HWB.out)
            have hG2 := hide (hc2 wr HWB.out)
            have HC := hide (fun wx (hb : Below wr.heap.size wr wx) => Method_eq x y ys1 ys2 wx (w1'.on (HWB.out.trans (hb.mono HWB.out.size))) (w2'.on (HWB.out.trans (hb.mono HWB.out.size))) (HL1.out x (List.mem_of_getElem? hx)) (HL2.out y (List.mem_of_getElem? hy)))
            obtain ⟨vp1, vc1, vk1, rfl, x1, x2, x3, _⟩ := w1'
            obtain ⟨vp2, vc2, vk2, rfl, x4, x5, x6, _⟩ := w2'
            obtain ⟨va1, vd1, rfl, _⟩ := x1.len
            obtain ⟨va2, vd2, rfl, _⟩ := x2.len
            obtain ⟨va3, vd3, rfl, _⟩ := x3.len
            obtain ⟨va4, vd4, rfl, _⟩ := x4.len
            obtain ⟨va5, vd5, rfl, _⟩ := x5.len
            obtain ⟨va6, vd6, rfl, _⟩ := x6.len
            have hsBx := hbB.size
            have HKK : Hid (∀ wx, Below wr.heap.size wr wx → wx.cell? ⟨g1, o1 + kB * 9, none⟩ = some (.string ⟨x.name.toArray⟩) ∧ wx.cell? ⟨g1, o1 + kB * 9 + 1, none⟩ = some (.bool x.stat) ∧ wx.cell? ⟨g1, o1 + kB * 9 + 2, none⟩ = some (.bool x.abst) ∧ wx.cell? ⟨g1, o1 + kB * 9 + 3, none⟩ = some (.slice va1 x.params.length vd1) ∧ wx.cell? ⟨g1, o1 + kB * 9 + 4, none⟩ = some (.int .i64 x.ret.kind) ∧ wx.cell? ⟨g1, o1 + kB * 9 + 5, none⟩ = some (.string ⟨x.ret.name.toArray⟩) ∧ wx.cell? ⟨g1, o1 + kB * 9 + 6, none⟩ = some (.int .i64 x.locals) ∧ wx.cell? ⟨g1, o1 + kB * 9 + 7, none⟩ = some (.slice va2 x.code.length vd2) ∧ wx.cell? ⟨g1, o1 + kB * 9 + 8, none⟩ = some (.slice va3 x.catches.length vd3) ∧ wx.cell? ⟨g2, o2 + kB * 9, none⟩ = some (.string ⟨y.name.toArray⟩) ∧ wx.cell? ⟨g2, o2 + kB * 9 + 1, none⟩ = some (.bool y.stat) ∧ wx.cell? ⟨g2, o2 + kB * 9 + 2, none⟩ = some (.bool y.abst) ∧ wx.cell? ⟨g2, o2 + kB * 9 + 3, none⟩ = some (.slice va4 y.params.length vd4) ∧ wx.cell? ⟨g2, o2 + kB * 9 + 4, none⟩ = some (.int .i64 y.ret.kind) ∧ wx.cell? ⟨g2, o2 + kB * 9 + 5, none⟩ = some (.string ⟨y.ret.name.toArray⟩) ∧ wx.cell? ⟨g2, o2 + kB * 9 + 6, none⟩ = some (.int .i64 y.locals) ∧ wx.cell? ⟨g2, o2 + kB * 9 + 7, none⟩ = some (.slice va5 y.code.length vd5) ∧ wx.cell? ⟨g2, o2 + kB * 9 + 8, none⟩ = some (.slice va6 y.catches.length vd6) ∧ wx.cell? ⟨w.heap.size, 5, none⟩ = some (.slice (some ⟨g1, o1, none⟩) j1 kc) ∧ wx.cell? ⟨w.heap.size + 1, 5, none⟩ = some (.slice (some ⟨g2, o2, none⟩) j1 ec)) := hide fun wx hb => ⟨hc1 wx (HWB.out.trans (hb.mono HWB.out.size)) 0 _ rfl, hc1 wx (HWB.out.trans (hb.mono HWB.out.size)) 1 _ rfl, hc1 wx (HWB.out.trans (hb.mono HWB.out.size)) 2 _ rfl, hc1 wx (HWB.out.trans (hb.mono HWB.out.size)) 3 _ rfl, hc1 wx (HWB.out.trans (hb.mono HWB.out.size)) 4 _ rfl, hc1 wx (HWB.out.trans (hb.mono HWB.out.size)) 5 _ rfl, hc1 wx (HWB.out.trans (hb.mono HWB.out.size)) 6 _ rfl, hc1 wx (HWB.out.trans (hb.mono HWB.out.size)) 7 _ rfl, hc1 wx (HWB.out.trans (hb.mono HWB.out.size)) 8 _ rfl, hc2 wx (HWB.out.trans (hb.mono HWB.out.size)) 0 _ rfl, hc2 wx (HWB.out.trans (hb.mono HWB.out.size)) 1 _ rfl, hc2 wx (HWB.out.trans (hb.mono HWB.out.size)) 2 _ rfl, hc2 wx (HWB.out.trans (hb.mono HWB.out.size)) 3 _ rfl, hc2 wx (HWB.out.trans (hb.mono HWB.out.size)) 4 _ rfl, hc2 wx (HWB.out.trans (hb.mono HWB.out.size)) 5 _ rfl, hc2 wx (HWB.out.trans (hb.mono HWB.out.size)) 6 _ rfl, hc2 wx (HWB.out.trans (hb.mono HWB.out.size)) 7 _ rfl, hc2 wx (HWB.out.trans (hb.mono HWB.out.size)) 8 _ rfl, (hb.cell (p := ⟨w.heap.size, 5, none⟩) (by show w.heap.size < _; omega)).trans cB, (hb.cell (p := ⟨w.heap.size + 1, 5, none⟩) (by show w.heap.size + 1 < _; omega)).trans dB⟩
            have hDD : Hid (Below wr.heap.size wr wr.drew) := hide (Below.drew (Below.refl _ _))
            have r0 := hG1.out 0 _ rfl
            have s0 := hG2.out 0 _ rfl
            have r1 := hG1.out 1 _ rfl
            have s1 := hG2.out 1 _ rfl
            have r2 := hG1.out 2 _ rfl
            have s2 := hG2.out 2 _ rfl
            have r3 := hG1.out 3 _ rfl
            have s3 := hG2.out 3 _ rfl
            have r4 := hG1.out 4 _ rfl
            have s4 := hG2.out 4 _ rfl
            have r5 := hG1.out 5 _ rfl
            have s5 := hG2.out 5 _ rfl
            have r6 := hG1.out 6 _ rfl
            have s6 := hG2.out 6 _ rfl
            have r7 := hG1.out 7 _ rfl
            have s7 := hG2.out 7 _ rfl
            have r8 := hG1.out 8 _ rfl
            have s8 := hG2.out 8 _ rfl
            rw [Nat.add_zero] at r0 s0
            have HX := hide hx
            have HY := hide hy
            clear hc1 hc2 hx hy hG1 hG2 x1 x2 x3 x4 x5 x6
            have hltB' : (kB : Int) < (j1 : Int) := by omega
            simp only [mthXL, List.toArray] at HC
            have HBEL := hide hbB
            have HSI := hide (Eq.take_step (x := x) HTB.out HX.out)
            have HNI := hide (Eq.ne_at (k := kB) HX.out HY.out)
            by_cases u : x = y
            · have HCt := hide (fun wx hb => (HC.out wx hb).mono (fun e w' h => And.intro (h.1.yes' u) h.2))
              have HS := hide (HSI.out (by rw [u]; exact HY.out))
              clear HC HSI HNI hbB u HX HY HKK
              go_wp2_with fail
              go_region_with (go_at_call 66; refine (HCt.out _ (by first | exact Below.refl _ _ | exact below_drewN (Below.refl _ _) _ | exact Below.drew (Below.refl _ _))).mono ?_; rintro e w5 ⟨rfl, hb5⟩; have HB5 : Hid (Below wr.heap.size wr w5) := hide ((by first | exact Below.drew (Below.refl _ _) | exact below_drewN (Below.refl _ _) _ : Below wr.heap.size wr _).trans (hb5.mono (Nat.le_refl _))); clear hb5)
              all_goals (go_wp2_with fail; go_roundw)
              all_goals first | exact ⟨kB + 1, by omega, by go_num, HBEL.out.trans (HB5.out.mono HBEL.out.size), HS⟩ | (simp [intOf]; omega)
            · have HCt := hide (fun wx hb => (HC.out wx hb).mono (fun e w' h => And.intro (h.1.no' u) h.2))
              have HN := hide (HNE.out co2 ca2 ps1 (.inr (.inr (HNI.out u))))
              clear HC HSI HNI hbB u HX HY HKK
              go_wp2_with fail
              go_region_with (go_at_call 66; refine (HCt.out _ (by first | exact Below.refl _ _ | exact below_drewN (Below.refl _ _) _ | exact Below.drew (Below.refl _ _))).mono ?_; rintro e w5 ⟨rfl, hb5⟩; have HB5 : Hid (Below wr.heap.size wr w5) := hide ((by first | exact Below.drew (Below.refl _ _) | exact below_drewN (Below.refl _ _) _ : Below wr.heap.size wr _).trans (hb5.mono (Nat.le_refl _))); clear hb5)
              all_goals (go_wp2_with fail; go_ret)
              all_goals exact ⟨Eq.no HN.out, HWB.out.trans (HB5.out.mono HWB.out.size)⟩
          · have HEB := hide (Eq.take_end HTB.out (by rw [← HJ1.out]; omega) (by rw [← HJ2.out]; omega))
            have HY : Hid ((⟨n1, st1, su1, ps1, co1, ca1⟩ : Pp.XCls) = ⟨n1, st1, su1, ps1, co2, ca2⟩) := hide (by rw [HEA.out, HEB.out])
            go_wp2_with fail
            go_ret
            exact ⟨Eq.yes HY.out, HWB.out⟩

end Go.Proofs.YtdgfidaopkcjoaaDoor
