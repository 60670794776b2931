/- What show's writer says of a class. -/
import Derived.Test.YtdgfidaopkcjoaaDoorMgC
namespace Go.Proofs.YtdgfidaopkcjoaaDoor
open Go.RowKit
set_option linter.unusedVariables false
set_option linter.unusedSimpArgs false

set_option maxRecDepth 100000 in
set_option maxHeartbeats 16000000 in
theorem wclass_tt (W : World) (b : Nat) (c : Pp.XCls) (ys : List Value) (hm : ClsX W c ys) (hok : Pp.clsB c = true) (hsu : c.super ≠ []) (hfi : c.ifaces ≠ []) (l : List UInt8) (v : Value) (w : World) (hw : Sh.Wr W.heap.size w b l v) (ht : Sh.Tabs W.heap.size w) (hbw : Below W.heap.size W w) (hle : l.length + (Pp.wordsT (Sh.clsF c)).length ≤ 1000000000) :
    Calls Tryd.prog 21 #[.pointer (some ⟨b, 0, none⟩), .agg ys.toArray] w fun e w' => e = .returned (.tuple #[]) ∧ (∃ v', Sh.Wr W.heap.size w' b (l ++ Pp.wordsT (Sh.clsF c)) v') ∧ Sh.Ke W.heap.size w w' := by
  obtain ⟨vi, vf, vm, rfl, x1, x2, x3, x4⟩ := hm
  rw [Sh.cls_words] at hle ⊢
  unfold Pp.clsB at hok
  simp only [Bool.and_eq_true, Pp.eachB_iff] at hok
  obtain ⟨_, _, ⟨k1, _⟩, ⟨k2, k3⟩, k4, k5⟩ := hok
  obtain ⟨n, ic, su, ifs, fs, ms⟩ := c
  simp only at x1 x2 x3 x4 k1 k2 k3 k4 k5 hle hsu hfi ⊢
  clear x4
  rw [if_neg hsu] at hle ⊢
  rw [if_neg hfi] at hle ⊢
  obtain ⟨pa, pc, rfl, _⟩ := x1.len
  obtain ⟨cq, cc, rfl, _⟩ := x2.len
  obtain ⟨kq, kc, rfl, _⟩ := x3.len
  obtain ⟨S0, hS0⟩ : ∃ S0 : ByteArray, S0 = ⟨n.toArray⟩ := ⟨_, rfl⟩
  obtain ⟨S1, hS1⟩ : ∃ S1 : ByteArray, S1 = ⟨su.toArray⟩ := ⟨_, rfl⟩
  have HS0 := hide hS0
  have HS1 := hide hS1
  simp only [clsXL]
  rw [← hS0, ← hS1]
  simp only [List.toArray]
  clear hS0
  simp only [List.length_append] at hle
  have HLE := hide hle
  have HX1 := hide x1
  have HX2 := hide x2
  have HX3 := hide x3
  have HK3 := hide k3
  have HK5 := hide k5
  have hne : S1.toList.isEmpty = false := by rw [hS1]; exact sh_nonempty su hsu
  clear hS1
  obtain ⟨n1, hn1⟩ : ∃ n1, n1 = ifs.length := ⟨_, rfl⟩
  obtain ⟨n2, hn2⟩ : ∃ n2, n2 = fs.length := ⟨_, rfl⟩
  obtain ⟨n3, hn3⟩ : ∃ n3, n3 = ms.length := ⟨_, rfl⟩
  have HN1 := hide hn1
  have HN2 := hide hn2
  have HN3 := hide hn3
  rw [← hn1] at k1 HX1 ⊢
  rw [← hn2] at k2 HX2 ⊢
  rw [← hn3] at k4 HX3 ⊢
  have hn1p : 0 < n1 := by rw [hn1]; exact List.length_pos_iff.2 hfi
  clear hn1 hn2 hn3 hle x1 x2 x3 k3 k5
  obtain ⟨l1, hl1⟩ : ∃ l1, l1 = Pp.sayL [if ic = true then Pp.wInterface else Pp.wClass, n] := ⟨_, rfl⟩
  rw [← hl1] at HLE ⊢
  have HL1 := hide hl1
  clear hl1
  have hE := hide (fun w => either_any ic ⟨Pp.wInterface.toArray⟩ ⟨Pp.wClass.toArray⟩ w)
  obtain ⟨l5, hl5⟩ : ∃ l5, l5 = Pp.sayL [if ic = true then Pp.wExtends else Pp.wImplements] := ⟨_, rfl⟩
  rw [← hl5] at HLE ⊢
  have HL5 := hide hl5
  clear hl5
  have hE2 := hide (fun w => either_any ic ⟨Pp.wExtends.toArray⟩ ⟨Pp.wImplements.toArray⟩ w)
  obtain ⟨MC, hMC⟩ : ∃ MC : Array Value, MC = #[.string S0, .bool ic, .string S1, .slice pa n1 pc, .slice cq n2 cc, .slice kq n3 kc] := ⟨_, rfl⟩
  have hwz := hw.alloc (.cells MC 48)
  have hkz := Sh.Ke.alloc hw.2.1 (.cells MC 48)
  have hz : ∀ wx, Sh.Ke W.heap.size (w.alloc (.cells MC 48)) wx → ∀ j, wx.cell? ⟨w.heap.size, j, none⟩ = MC[j]? := fun wx hx j => hx.cell (heap_alloc_new w _) (by decide) (by decide) j
  have hbz : Below W.heap.size W (w.alloc (.cells MC 48)) := hbw.trans hkz.bel
  have HZ := hide hz
  have HWZ := hide hwz
  have HKZ := hide hkz
  have HBZ := hide hbz
  have HTZ := hide (ht.on hkz.bel)
  clear hz hwz hkz hw ht hbz hbw
  rw [hMC] at HZ HWZ HKZ HBZ HTZ
  clear hMC MC
  go_enter Tryd.func21, Tryd.ntmps21
  go_wp2_with fail
  generalize w.alloc _ = wz at *
  have hK : Hid (∀ wx, Sh.Ke W.heap.size wz wx → wx.cell? ⟨w.heap.size, 0, none⟩ = some (.string S0) ∧ wx.cell? ⟨w.heap.size, 1, none⟩ = some (.bool ic)) := hide fun wx hx => ⟨HZ.out wx hx 0, HZ.out wx hx 1⟩
  have hD : Hid (Sh.Ke W.heap.size wz wz.drew) := hide (Sh.Ke.drew _ _)
  have hA : Hid (∀ o, Sh.Ke W.heap.size wz (wz.alloc o).drew) := hide fun o => (Sh.Ke.alloc HWZ.out.2.1 o).trans (Sh.Ke.drew _ _)
  have HS : Hid (Calls Tryd.prog 35 #[.pointer (some ⟨b, 0, none⟩), .slice (some ⟨wz.heap.size, 0, none⟩) 2 2] (wz.alloc (.cells #[.string (if ic = true then ⟨Pp.wInterface.toArray⟩ else ⟨Pp.wClass.toArray⟩), .string S0] 9)).drew fun e w' => e = .returned (.tuple #[]) ∧ (∃ v', Sh.Wr W.heap.size w' b (l ++ l1) v') ∧ Sh.Ke W.heap.size (wz.alloc (.cells #[.string (if ic = true then ⟨Pp.wInterface.toArray⟩ else ⟨Pp.wClass.toArray⟩), .string S0] 9)).drew w') :=
    hide (by rw [HL1.out] at HLE ⊢; exact say_blk W.heap.size b wz.heap.size 2 2 _ _ (by rw [HS0.out]; cases ic <;> rfl) rfl l v _ ((HWZ.out.alloc _).drew) (heap_alloc_new wz _) (by omega) (by have := HLE.out; omega))
  generalize hkw : (if ic = true then (⟨Pp.wInterface.toArray⟩ : ByteArray) else ⟨Pp.wClass.toArray⟩) = KW at *
  clear hkw HL1
  go_region_held (fun wx => wx.cell? ⟨w.heap.size, 0, none⟩ = some (.string S0) ∧ wx.cell? ⟨w.heap.size, 1, none⟩ = some (.bool ic)) (first | exact hK.out _ HKa.out | exact hK.out _ hD.out | exact hK.out _ (hA.out _))
    (first | (go_at_call 36; refine (hE.out _).mono ?_; rintro e w5 ⟨rfl, hw5⟩; subst hw5) | (go_at_call 35; refine HS.out.mono ?_; rintro e wa ⟨rfl, h61, h62⟩; have HKa : Hid (Sh.Ke W.heap.size wz wa) := hide ((hA.out _).trans h62); have HW6 := hide h61; clear h61 h62))
  obtain ⟨va, hW6⟩ := HW6.out
  have HWa := hide hW6
  clear hW6 HW6 hK hD hA HS hE HWZ
  have q2 : wa.cell? ⟨w.heap.size, 2, none⟩ = some (.string S1) := HZ.out wa HKa.out 2
  have q3 : wa.cell? ⟨w.heap.size, 3, none⟩ = some (.slice pa n1 pc) := HZ.out wa HKa.out 3
  have q1 : wa.cell? ⟨w.heap.size, 1, none⟩ = some (.bool ic) := HZ.out wa HKa.out 1
  have HS := hide (say_new W.heap.size b 2 2 [Pp.wExtends, su] #[.string ⟨#[101, 120, 116, 101, 110, 100, 115]⟩, .string S1] (by rw [HS1.out]; rfl) rfl _ va wa HWa.out (by omega) (by have := HLE.out; simp only [List.length_append]; omega))
  go_wp2_with fail
  refine HS.out.mono ?_
  rintro e wb ⟨rfl, ⟨vb, hb1⟩, hb2⟩
  have HWb := hide hb1
  have HKb := hide (HKa.out.trans hb2)
  clear hb1 hb2 HS HWa HKa q1 q2 q3
  have q3 : wb.cell? ⟨w.heap.size, 3, none⟩ = some (.slice pa n1 pc) := HZ.out wb HKb.out 3
  have q1 : wb.cell? ⟨w.heap.size, 1, none⟩ = some (.bool ic) := HZ.out wb HKb.out 1
  have hn1i : (0 : Int) < (n1 : Int) := by omega
  go_wp2_with fail
  refine (hE2.out _).mono ?_
  rintro e wq ⟨rfl, hwq⟩
  subst hwq
  have hs5 := say_new W.heap.size b 1 1 [if ic = true then Pp.wExtends else Pp.wImplements] #[.string (if ic = true then ⟨Pp.wExtends.toArray⟩ else ⟨Pp.wImplements.toArray⟩)] (by cases ic <;> rfl) rfl _ vb _ HWb.out (by omega) (by have := HLE.out; rw [HL5.out] at this; simp only [List.length_append]; omega)
  rw [← HL5.out] at hs5
  have HS := hide hs5
  clear hs5
  generalize hkw2 : (if ic = true then (⟨Pp.wExtends.toArray⟩ : ByteArray) else ⟨Pp.wImplements.toArray⟩) = KW2 at *
  clear hkw2
  go_wp2_with fail
  refine HS.out.mono ?_
  rintro e wc ⟨rfl, ⟨vc, hb1⟩, hb2⟩
  have HWc := hide hb1
  have HKc := hide (HKb.out.trans hb2)
  clear hb1 hb2 HS HWb HKb q1 q3 hE2
  have q3 : wc.cell? ⟨w.heap.size, 3, none⟩ = some (.slice pa n1 pc) := HZ.out wc HKc.out 3
  obtain ⟨l2, hl2⟩ : ∃ l2, l2 = (l ++ l1 ++ Pp.sayL [Pp.wExtends, su] ++ l5) := ⟨_, rfl⟩
  rw [← hl2] at HWc
  have HL2 := hide hl2
  have HLE2 : Hid (l2.length + (Pp.wordsT (Pp.commaW Sh.nmW ifs)).length + (Pp.sayL [Pp.wLB]).length + (Pp.wordsT (Pp.manyW Pp.fldW fs)).length + (Pp.wordsT (Pp.manyW Sh.mthF ms)).length + (Pp.sayL [Pp.wRB]).length ≤ 1000000000) := hide (by
    have := HLE.out
    rw [hl2]
    simp only [List.length_append, List.length_nil] at this ⊢
    omega)
  clear hl2 HLE
  go_wp2_with fail
  clear q3
  go_loopw [39] (fun i wr => ∃ (k : Nat) (v : Value), k ≤ n1 ∧ i = .int .i64 k ∧ Sh.Wr W.heap.size wr b (l2 ++ Pp.wordsT (Pp.commaW Sh.nmW (ifs.take k))) v ∧ Sh.Ke W.heap.size wz wr) (fun i _ => n1 - (intOf i).toNat)
  case atStart => exact ⟨0, vc, Nat.zero_le _, rfl, by simpa [Pp.commaW, Pp.wordsT, Pp.sayL] using HWc.out, HKc.out⟩
  case round =>
    clear HWc HKc
    obtain ⟨k, v0, hk, rfl, hwr, hke⟩ := hrel
    by_cases hlt : k < n1
    · obtain ⟨x, hx⟩ : ∃ x, ifs[k]? = some x := ⟨ifs[k]'(by rw [← HN1.out]; exact hlt), List.getElem?_eq_getElem _⟩
      obtain ⟨g, o, rfl, ys, hy, hcell⟩ := Sh.row_at HX1.out hx
      obtain rfl : ys = _ := hy.1
      have r0 := hcell wr (HBZ.out.trans hke.bel) 0 _ rfl
      rw [Nat.add_zero, Nat.mul_one] at r0
      have hS := Sh.commaT_take Sh.nmW hx
      have hS2 := Sh.commaT_le Sh.nmW ifs (k + 1)
      have HA : Hid (l2 ++ Pp.wordsT (Pp.commaW Sh.nmW (ifs.take (k + 1))) = (l2 ++ Pp.wordsT (Pp.commaW Sh.nmW (ifs.take k))) ++ ((if k = 0 then [] else Pp.sayL [[44]]) ++ Pp.sayL [x])) := hide (by rw [hS]; simp only [List.append_assoc]; rfl)
      rw [hS] at hS2
      have HLx : Hid ((l2 ++ Pp.wordsT (Pp.commaW Sh.nmW (ifs.take k))).length + (if k = 0 then [] else Pp.sayL [[44]]).length + (Pp.sayL [x]).length + 2 ≤ 1000000000) := hide (by
        have h1 := HLE2.out
        have h2 : Pp.wordsT (Sh.nmW x) = Pp.sayL [x] := rfl
        rw [h2] at hS2
        have h3 : (Pp.sayL [Pp.wLB]).length = 2 := rfl
        simp only [List.length_append] at hS2 ⊢
        omega)
      generalize l2 ++ Pp.wordsT (Pp.commaW Sh.nmW (ifs.take k)) = acc at *
      have HS := hide (comma_any W.heap.size b k acc v0 _ hwr (by omega) (by have := HLx.out; omega))
      have HKe := hide hke
      clear hcell hy hx hS hS2 hwr hke HX1
      have hlt' : (k : Int) < (n1 : Int) := by omega
      go_wp2_with fail
      refine HS.out.mono ?_
      rintro e w4 ⟨rfl, ⟨v4, h41⟩, h42⟩
      have HK4 := hide (HKe.out.trans h42)
      have HS2 := hide (say_new W.heap.size b 1 1 [x] #[.string ⟨x.toArray⟩] rfl rfl _ v4 w4 h41 (by omega) (by have := HLx.out; rw [List.length_append]; omega))
      clear h41 h42 HS HKe r0
      go_wp2_with fail
      refine HS2.out.mono ?_
      rintro e w7 ⟨rfl, ⟨v7, h71⟩, h72⟩
      rw [List.append_assoc, ← HA.out] at h71
      have HW7 := hide h71
      have HK7 := hide (HK4.out.trans h72)
      clear h71 h72 HS2 HK4 HA HLx
      go_wp2_with fail
      go_roundw
      case rel => exact ⟨k + 1, v7, by omega, by go_num, HW7.out, HK7.out⟩
      case measure => simp [intOf]; omega
    · rw [List.take_of_length_le (by rw [← HN1.out]; omega)] at hwr
      have HS := hide (say_new W.heap.size b 1 1 [Pp.wLB] #[.string ⟨#[123]⟩] rfl rfl _ v0 wr hwr (by omega) (by have := HLE2.out; simp only [List.length_append]; omega))
      have HKe := hide hke
      clear hwr hke HX1
      go_wp2_with fail
      refine HS.out.mono ?_
      rintro e wd ⟨rfl, ⟨vd, h41⟩, h42⟩
      have HKd := hide (HKe.out.trans h42)
      obtain ⟨l3, hl3⟩ : ∃ l3, l3 = l2 ++ Pp.wordsT (Pp.commaW Sh.nmW ifs) ++ Pp.sayL [Pp.wLB] := ⟨_, rfl⟩
      rw [← hl3] at h41
      have HL3 := hide hl3
      have HLE3 : Hid (l3.length + (Pp.wordsT (Pp.manyW Pp.fldW fs)).length + (Pp.wordsT (Pp.manyW Sh.mthF ms)).length + (Pp.sayL [Pp.wRB]).length ≤ 1000000000) := hide (by
        have := HLE2.out
        rw [hl3]
        simp only [List.length_append]
        omega)
      have HWd := hide h41
      have q4 : wd.cell? ⟨w.heap.size, 4, none⟩ = some (.slice cq n2 cc) := HZ.out wd HKd.out 4
      clear h41 h42 HS HKe hl3 HLE2
      go_wp2_with fail
      clear q4
      go_loopw [58] (fun i wr => ∃ (k : Nat) (v : Value), k ≤ n2 ∧ i = .int .i64 k ∧ Sh.Wr W.heap.size wr b (l3 ++ Pp.wordsT (Pp.manyW Pp.fldW (fs.take k))) v ∧ Sh.Ke W.heap.size wz wr) (fun i _ => n2 - (intOf i).toNat)
      case atStart => exact ⟨0, vd, Nat.zero_le _, rfl, by simpa [Pp.manyW, Pp.wordsT, Pp.sayL] using HWd.out, HKd.out⟩
      case round =>
        clear HWd HKd
        obtain ⟨k2', v02, hk2, rfl, hwr, hke⟩ := hrel
        by_cases hlt2 : k2' < n2
        · obtain ⟨x, hx⟩ : ∃ x, fs[k2']? = some x := ⟨fs[k2']'(by rw [← HN2.out]; exact hlt2), List.getElem?_eq_getElem _⟩
          obtain ⟨g, o, rfl, ys, hy, hcell⟩ := Sh.row_at HX2.out hx
          obtain rfl : ys = _ := hy.1
          have hbr := HBZ.out.trans hke.bel
          have r0 := hcell wr hbr 0 _ rfl
          have r1 := hcell wr hbr 1 _ rfl
          have r2 := hcell wr hbr 2 _ rfl
          have r3 := hcell wr hbr 3 _ rfl
          rw [Nat.add_zero] at r0
          have hS := Sh.manyT_take Pp.fldW hx
          have hS2 := Sh.manyT_le Pp.fldW fs (k2' + 1)
          have HA : Hid (l3 ++ Pp.wordsT (Pp.manyW Pp.fldW (fs.take (k2' + 1))) = (l3 ++ Pp.wordsT (Pp.manyW Pp.fldW (fs.take k2'))) ++ Pp.wordsT (Pp.fldW x)) := hide (by rw [hS]; simp only [List.append_assoc])
          rw [hS] at hS2
          have hle2 : (l3 ++ Pp.wordsT (Pp.manyW Pp.fldW (fs.take k2'))).length + (Pp.wordsT (Pp.fldW x)).length ≤ 1000000000 := by
            have := HLE3.out
            simp only [List.length_append] at hS2 ⊢
            omega
          have HI := hide (fun o => wfield_any W.heap.size b x ((Pp.fldB_iff x).1 (HK3.out x (List.mem_of_getElem? hx))) _ v02 (wr.alloc o) (hwr.alloc o) hle2)
          have HKA := hide (fun o => hke.trans (Sh.Ke.alloc hwr.2.1 o))
          rw [← HA.out] at HI
          clear hcell hy hx hS hS2 hle2 hbr hwr hke HA HX2 HK3
          generalize (⟨x.name.toArray⟩ : ByteArray) = y0 at *
          generalize x.ty.kind = y1 at *
          generalize (⟨x.ty.name.toArray⟩ : ByteArray) = y2 at *
          generalize x.stat = y3 at *
          have hlt' : (k2' : Int) < (n2 : Int) := by omega
          go_wp2_with fail
          refine (HI.out _).mono ?_
          rintro e w4 ⟨rfl, ⟨v4, h41⟩, h42⟩
          have HW4 := hide h41
          have HK4' := hide ((HKA.out _).trans h42)
          clear h41 h42 HI HKA r0 r1 r2 r3
          go_wp2_with fail
          go_roundw
          case rel => exact ⟨k2' + 1, v4, by omega, by go_num, HW4.out, HK4'.out⟩
          case measure => simp [intOf]; omega
        · rw [List.take_of_length_le (by rw [← HN2.out]; omega)] at hwr
          obtain ⟨l4, hl4⟩ : ∃ l4, l4 = l3 ++ Pp.wordsT (Pp.manyW Pp.fldW fs) := ⟨_, rfl⟩
          rw [← hl4] at hwr
          have HL4 := hide hl4
          have HLE4 : Hid (l4.length + (Pp.wordsT (Pp.manyW Sh.mthF ms)).length + (Pp.sayL [Pp.wRB]).length ≤ 1000000000) := hide (by
            have := HLE3.out
            rw [hl4, List.length_append]
            omega)
          have HWe := hide hwr
          have HKe := hide hke
          have q5 : wr.cell? ⟨w.heap.size, 5, none⟩ = some (.slice kq n3 kc) := HZ.out wr hke 5
          clear hwr hke HX2 HK3 HLE3 hl4
          obtain ⟨wo, rfl⟩ : ∃ wo : World, wo = wr := ⟨_, rfl⟩
          go_wp2_with fail
          clear q5
          go_loopw [69] (fun i wr => ∃ (k : Nat) (v : Value), k ≤ n3 ∧ i = .int .i64 k ∧ Sh.Wr W.heap.size wr b (l4 ++ Pp.wordsT (Pp.manyW Sh.mthF (ms.take k))) v ∧ Sh.Ke W.heap.size wz wr) (fun i _ => n3 - (intOf i).toNat)
          case atStart => exact ⟨0, v02, Nat.zero_le _, rfl, by simpa [Pp.manyW, Pp.wordsT, Pp.sayL] using HWe.out, HKe.out⟩
          case round =>
            clear HWe HKe
            obtain ⟨k3', v03, hk3, rfl, hwr, hke⟩ := hrel
            by_cases hlt3 : k3' < n3
            · obtain ⟨x, hx⟩ : ∃ x, ms[k3']? = some x := ⟨ms[k3']'(by rw [← HN3.out]; exact hlt3), List.getElem?_eq_getElem _⟩
              obtain ⟨g, o, rfl, ys, hy, hcell⟩ := Sh.row_at HX3.out hx
              have hbr := HBZ.out.trans hke.bel
              have hS := Sh.manyT_take Sh.mthF hx
              have hS2 := Sh.manyT_le Sh.mthF ms (k3' + 1)
              have HA : Hid (l4 ++ Pp.wordsT (Pp.manyW Sh.mthF (ms.take (k3' + 1))) = (l4 ++ Pp.wordsT (Pp.manyW Sh.mthF (ms.take k3'))) ++ Pp.wordsT (Sh.mthF x)) := hide (by rw [hS]; simp only [List.append_assoc])
              rw [hS] at hS2
              have hle2 : (l4 ++ Pp.wordsT (Pp.manyW Sh.mthF (ms.take k3'))).length + (Pp.wordsT (Sh.mthF x)).length ≤ 1000000000 := by
                have := HLE4.out
                simp only [List.length_append] at hS2 ⊢
                omega
              have HI := hide (fun o => wmethod_any W b x ys hy (HK5.out x (List.mem_of_getElem? hx)) _ v03 (wr.alloc o) (hwr.alloc o) (HTZ.out.on (hke.trans (Sh.Ke.alloc hwr.2.1 o)).bel) (hbr.trans (Sh.Ke.alloc hwr.2.1 o).bel) hle2)
              have HKA := hide (fun o => hke.trans (Sh.Ke.alloc hwr.2.1 o))
              rw [← HA.out] at HI
              have hG := hide (hcell wr hbr)
              obtain ⟨vp, vc, vk, rfl, x1, x2, x3, x4⟩ := hy
              obtain ⟨za, zb, rfl, _⟩ := x1.len
              obtain ⟨zc, zd, rfl, _⟩ := x2.len
              obtain ⟨ze, zf, rfl, _⟩ := x3.len
              clear x1 x2 x3 x4
              have r0 := hG.out 0 _ rfl
              have r1 := hG.out 1 _ rfl
              have r2 := hG.out 2 _ rfl
              have r3 := hG.out 3 _ rfl
              have r4 := hG.out 4 _ rfl
              have r5 := hG.out 5 _ rfl
              have r6 := hG.out 6 _ rfl
              have r7 := hG.out 7 _ rfl
              have r8 := hG.out 8 _ rfl
              rw [Nat.add_zero] at r0
              clear hcell hx hS hS2 hle2 hbr hwr hke HA HX3 HK5 hG
              simp only [mthXL] at HI
              generalize (⟨x.name.toArray⟩ : ByteArray) = y0 at *
              generalize x.stat = y1 at *
              generalize x.abst = y2 at *
              generalize x.ret.kind = y3 at *
              generalize (⟨x.ret.name.toArray⟩ : ByteArray) = y4 at *
              generalize x.locals = y5 at *
              generalize x.params.length = z1 at *
              generalize x.code.length = z2 at *
              generalize x.catches.length = z3 at *
              have hlt' : (k3' : Int) < (n3 : Int) := by omega
              go_wp2_with fail
              refine (HI.out _).mono ?_
              rintro e w4 ⟨rfl, ⟨v4, h41⟩, h42⟩
              have HW4 := hide h41
              have HK4' := hide ((HKA.out _).trans h42)
              clear h41 h42 HI HKA r0 r1 r2 r3 r4 r5 r6 r7 r8
              go_wp2_with fail
              go_roundw
              case rel => exact ⟨k3' + 1, v4, by omega, by go_num, HW4.out, HK4'.out⟩
              case measure => simp [intOf]; omega
            · rw [List.take_of_length_le (by rw [← HN3.out]; omega)] at hwr
              have HS := hide (say_new W.heap.size b 1 1 [Pp.wRB] #[.string ⟨#[125]⟩] rfl rfl _ v03 wr hwr (by omega) (by have := HLE4.out; rw [List.length_append]; omega))
              have HKe := hide hke
              clear hwr hke HX3 HK5
              go_wp2_with fail
              refine HS.out.mono ?_
              rintro e w8 ⟨rfl, ⟨v8, h81⟩, h82⟩
              have HW8 := hide h81
              have HK8 := hide (HKZ.out.trans (HKe.out.trans h82))
              clear h81 h82 HS HKe
              go_wp2_with fail
              refine bodyPost_end (v := .tuple #[]) (by simp [results, Tryd.results21, go_sem]) rfl ⟨rfl, ⟨v8, ?_⟩, HK8.out⟩
              have hh := HW8.out
              rw [HL4.out, HL3.out, HL2.out] at hh
              simpa only [List.append_assoc, List.nil_append] using hh

end Go.Proofs.YtdgfidaopkcjoaaDoor
