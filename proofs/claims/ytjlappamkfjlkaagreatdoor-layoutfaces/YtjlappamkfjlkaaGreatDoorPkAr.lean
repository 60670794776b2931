/- What the laws of this seat lean on: 1 texts. -/
import Derived.Test.YtjlappamkfjlkaaGreatDoorPkAq
set_option maxRecDepth 100000
set_option maxHeartbeats 64000000
set_option linter.unusedVariables false
set_option linter.unusedSimpArgs false
namespace Go.Proofs.YtjlappamkfjlkaaGreatDoor
open Go.RowKit
namespace Sh
theorem clsB_all (c : Pp.XCls) : Pp.clsB c = true ↔ Pp.freshB c.name = true /\ Pp.supB c = true /\ c.ifaces.length <= 4 /\ c.fields.length <= 6 /\ c.methods.length <= 6 /\ (∀ s ∈ c.ifaces, Pp.freshB s = true) /\ (∀ f ∈ c.fields, Pp.fldB f = true) /\ (∀ m ∈ c.methods, Pp.mthB m = true) := by
 unfold Pp.clsB; simp only [Bool.and_eq_true, Pp.eachB_iff]; constructor
 · rintro ⟨h1, h2, ⟨h3, h4⟩, ⟨h5, h6⟩, h7, h8⟩
   exact ⟨h1, h2, h3, h5, h7, h4, h6, h8⟩
 · rintro ⟨h1, h2, h3, h5, h7, h4, h6, h8⟩
   exact ⟨h1, h2, ⟨h3, h4⟩, ⟨h5, h6⟩, h7, h8⟩
theorem progB_all (cs : List Pp.XCls) : Pp.progB cs = true ↔ cs.length <= 10 /\ ∀ c ∈ cs, Pp.clsB c = true := Pp.eachB_iff _ _ _
end Sh
theorem Shown_any (cs : List Pp.XCls) (v : Value) (w : World) (h : ProgX w v cs) :
 Calls Tryz.prog 58 #[.agg #[v]] w fun e w' => e = .returned (.bool (Pp.progB cs)) /\ Below w.heap.size w w' := by
 have HIF := hide (Sh.progB_all cs); obtain ⟨pa, pc, rfl, _⟩ := h.1.len; obtain ⟨len, hlen⟩ : ∃ len, len = cs.length := ⟨_, rfl⟩; have HL := hide hlen; have HX := hide h.1; have hml := h.2; unfold maxLen at hml; rw [<- hlen] at HX HIF hml ⊢; clear h hlen; generalize Pp.progB cs = R at *
 by_cases h10 : 10 < len
 · have h10' : (10 : Int) < (len : Int) := by omega
   have hRf := Sh.no_of HIF.out (fun h => by have := h.1; omega)
   subst hRf; go_enter Tryz.func58, Tryz.ntmps58; go_wp2_with fail; go_ret; exact ⟨rfl, (Below.refl _ _).alloc (Nat.le_refl _) _⟩
 have h10' : ¬ (10 : Int) < (len : Int) := by omega
 have HB0 : Hid (Below w.heap.size w (w.alloc (.cells #[.slice pa len pc] 24))) := hide ((Below.refl _ _).alloc (Nat.le_refl _) _); have HP : Hid (∀ wx, Below (w.alloc (.cells #[.slice pa len pc] 24)).heap.size (w.alloc (.cells #[.slice pa len pc] 24)) wx -> wx.cell? ⟨w.heap.size, 0, none⟩ = some (.slice pa len pc)) := hide fun wx hb => (hb.cell (p := ⟨w.heap.size, 0, none⟩) (by show w.heap.size < _; simp)).trans (cell_box (heap_alloc_new w _) 0)
 go_enter Tryz.func58, Tryz.ntmps58; go_wp2_with fail; generalize w.alloc (.cells #[.slice pa len pc] 24) = w0 at *
 generalize w.heap.size = bp at HP ⊢
 go_loopw [3] (fun i wr => ∃ k : Nat, k <= len /\ i = .int .i64 k /\ Below w0.heap.size w0 wr /\ Hid (∀ y ∈ cs.take k, Pp.clsB y = true)) (fun i _ => len - (intOf i).toNat)
 case atStart => exact ⟨0, Nat.zero_le _, rfl, Below.refl _ _, hide (by simp)⟩
 case round =>
  obtain ⟨kA, hkA, rfl, hbA, HAA⟩ := hrel; have pA := HP.out wr hbA; have HA := hide hbA; have HWA := hide (HB0.out.trans (hbA.mono HB0.out.size)); clear hbA; by_cases hltA : kA < len
  · obtain ⟨x, hx⟩ : ∃ x, cs[kA]? = some x := ⟨cs[kA]'(by rw [<- HL.out]; exact hltA), List.getElem?_eq_getElem _⟩
    obtain ⟨g, o, rfl, ys, hy, hcell⟩ := Sh.row_at2 HX.out hx; have HX2 := hide hx; have hG := hide (hcell wr HWA.out); have HC := hide (Sh.clsB_all x); have hno : Hid (Pp.clsB x = false -> R = false) := hide (fun hb => Sh.no_of HIF.out (fun h => by have := h.2 x (List.mem_of_getElem? HX2.out); rw [hb] at this; cases this))
    have hstep : Hid (Pp.clsB x = true -> ∀ y ∈ cs.take (kA + 1), Pp.clsB y = true) := hide (fun h => Pp.all_take HAA.out HX2.out h); obtain ⟨vi, vf, vm, rfl, x1, x2, x3, x4⟩ := hy; obtain ⟨l1, l2, l3, l4, l5⟩ := x4; obtain ⟨ia, ic, rfl, _⟩ := x1.len; obtain ⟨fa, fc, rfl, _⟩ := x2.len; obtain ⟨ma, mc, rfl, _⟩ := x3.len; have r0 := hG.out 0 _ rfl; have r1 := hG.out 1 _ rfl; have r2 := hG.out 2 _ rfl; have r3 := hG.out 3 _ rfl; have r4 := hG.out 4 _ rfl; have r5 := hG.out 5 _ rfl; rw [Nat.add_zero] at r0; have hF0 := hide (fun w' => refFresh_any x.name l1 w'); have hF2 := hide (fun w' => refFresh_any x.super l2 w')
    have hSu : Hid (Pp.supB x = ((⟨x.super.toArray⟩ : ByteArray).toList.isEmpty || (!x.iface && Pp.freshB x.super))) := hide (by
     unfold Pp.supB
     congr 1
     rw [ByteArray.toList_eq]; cases x.super <;> rfl)
    obtain ⟨n1, hn1⟩ : ∃ n, n = x.ifaces.length := ⟨_, rfl⟩; obtain ⟨n2, hn2⟩ : ∃ n, n = x.fields.length := ⟨_, rfl⟩; obtain ⟨n3, hn3⟩ : ∃ n, n = x.methods.length := ⟨_, rfl⟩; have HN1 := hide hn1; have HN2 := hide hn2; have HN3 := hide hn3; rw [<- hn1] at r3 x1 l3; rw [<- hn2] at r4 x2 l4; rw [<- hn3] at r5 x3 l5; rw [<- hn1, <- hn2, <- hn3] at HC; unfold maxLen at l3 l4 l5; have HI := hide x1; have HF := hide x2; have HM := hide x3; generalize Pp.clsB x = RC at *
    generalize Pp.freshB x.name = b1 at *
    generalize Pp.supB x = b2 at *
    generalize Pp.freshB x.super = b3 at *
    generalize (⟨x.name.toArray⟩ : ByteArray) = S0 at *
    generalize (⟨x.super.toArray⟩ : ByteArray) = S2 at *
    generalize x.iface = bI at *
    clear hcell x1 x2 x3 hG hn1 hn2 hn3 hx l1 l2 HX; have hltA' : (kA : Int) < (len : Int) := by omega
    have H0C := hide (HA.out.alloc HA.out.size (.cells #[.string S0, .bool bI, .string S2, .slice ia n1 ic, .slice fa n2 fc, .slice ma n3 mc] 59)); have HXC : Hid (∀ wx, Below (wr.alloc (.cells #[.string S0, .bool bI, .string S2, .slice ia n1 ic, .slice fa n2 fc, .slice ma n3 mc] 59)).heap.size (wr.alloc (.cells #[.string S0, .bool bI, .string S2, .slice ia n1 ic, .slice fa n2 fc, .slice ma n3 mc] 59)) wx -> ∀ j, wx.cell? ⟨wr.heap.size, j, none⟩ = #[Value.string S0, .bool bI, .string S2, .slice ia n1 ic, .slice fa n2 fc, .slice ma n3 mc][j]?) := hide fun wx hb j => (hb.cell (p := ⟨wr.heap.size, j, none⟩) (by show wr.heap.size < _; simp)).trans (cell_box (heap_alloc_new wr _) j)
    go_wp2_with fail; clear r0 r1 r2 r3 r4 r5 pA; generalize wr.alloc (.cells #[.string S0, .bool bI, .string S2, .slice ia n1 ic, .slice fa n2 fc, .slice ma n3 mc] 59) = wc at *
    generalize wr.heap.size = bc at HXC ⊢; refine (hF0.out _).mono ?_; rintro e w1 ⟨rfl, hb1⟩; have H1 := hide hb1; clear hb1 hF0; cases b1 with
    | false =>
      have hRf := hno.out (Sh.no_of HC.out (fun h => by have := h.1; cases this))
      subst hRf; go_wp2_with fail; go_ret; exact ⟨rfl, (HB0.out.trans ((H0C.out.trans (H1.out.mono H0C.out.size)).mono HB0.out.size))⟩
    | true =>
      have f1 : w1.cell? ⟨bc, 1, none⟩ = some (.bool bI) := HXC.out w1 H1.out 1; have f2 : w1.cell? ⟨bc, 2, none⟩ = some (.string S2) := HXC.out w1 H1.out 2; have f3 : w1.cell? ⟨bc, 3, none⟩ = some (.slice ia n1 ic) := HXC.out w1 H1.out 3; have f4 : w1.cell? ⟨bc, 4, none⟩ = some (.slice fa n2 fc) := HXC.out w1 H1.out 4; have f5 : w1.cell? ⟨bc, 5, none⟩ = some (.slice ma n3 mc) := HXC.out w1 H1.out 5; cases hE : S2.toList.isEmpty with
      | true =>
        have hb2 : b2 = true := by rw [hSu.out, hE]; rfl
        have HB2 := hide hb2; clear hb2; by_cases e1 : 4 < n1
        · have e1' : (4 : Int) < (n1 : Int) := by omega
          have hRf := hno.out (Sh.no_of HC.out (fun h => by have := h.2.2.1; omega))
          subst hRf; go_wp2_with fail; go_ret; exact ⟨rfl, (HB0.out.trans ((H0C.out.trans (H1.out.mono H0C.out.size)).mono HB0.out.size))⟩
        have e1' : ¬ (4 : Int) < (n1 : Int) := by omega
        by_cases e2 : 6 < n2
        · have e2' : (6 : Int) < (n2 : Int) := by omega
          have hRf := hno.out (Sh.no_of HC.out (fun h => by have := h.2.2.2.1; omega))
          subst hRf; go_wp2_with fail; go_ret; exact ⟨rfl, (HB0.out.trans ((H0C.out.trans (H1.out.mono H0C.out.size)).mono HB0.out.size))⟩
        have e2' : ¬ (6 : Int) < (n2 : Int) := by omega
        by_cases e3 : 6 < n3
        · have e3' : (6 : Int) < (n3 : Int) := by omega
          have hRf := hno.out (Sh.no_of HC.out (fun h => by have := h.2.2.2.2.1; omega))
          subst hRf; go_wp2_with fail; go_ret; exact ⟨rfl, (HB0.out.trans ((H0C.out.trans (H1.out.mono H0C.out.size)).mono HB0.out.size))⟩
        have e3' : ¬ (6 : Int) < (n3 : Int) := by omega
        go_wp2_with fail; clear f1 f2 f3 f4 f5
        go_loopw [5] (fun i wr => ∃ k : Nat, k <= n1 /\ i = .int .i64 k /\ Below w1.heap.size w1 wr /\ Hid (∀ t ∈ x.ifaces.take k, Pp.freshB t = true)) (fun i _ => n1 - (intOf i).toNat)
        case atStart => exact ⟨0, Nat.zero_le _, rfl, Below.refl _ _, hide (by simp)⟩
        case round =>
         obtain ⟨kB, hkB, rfl, hbB, HBB⟩ := hrel; have HB := hide (H1.out.trans (hbB.mono H1.out.size)); have g3 : wr.cell? ⟨bc, 3, none⟩ = some (.slice ia n1 ic) := HXC.out wr HB.out 3; by_cases hltB : kB < n1
         · obtain ⟨y, hy⟩ : ∃ y, x.ifaces[kB]? = some y := ⟨x.ifaces[kB]'(by rw [<- HN1.out]; exact hltB), List.getElem?_eq_getElem _⟩
           obtain ⟨gB, oB, rfl, ys, hys, hcell⟩ := Sh.row_at2 HI.out hy; have HY := hide hy; have hG := hide (hcell wr (HB0.out.trans ((H0C.out.trans (HB.out.mono H0C.out.size)).mono HB0.out.size))); obtain rfl : ys = _ := hys.1; have z0 := hG.out 0 _ rfl; rw [Nat.add_zero, Nat.mul_one] at z0; have hFy := hide (fun w' => refFresh_any y hys.2 w'); have hst : Hid (Pp.freshB y = true -> ∀ t ∈ x.ifaces.take (kB + 1), Pp.freshB t = true) := hide (fun h => Pp.all_take HBB.out HY.out h); have hnn : Hid (Pp.freshB y = false -> R = false) := hide (fun hb => hno.out (Sh.no_of HC.out (fun h => by have := h.2.2.2.2.2.1 y (List.mem_of_getElem? HY.out); rw [hb] at this; cases this)))
           generalize (⟨y.toArray⟩ : ByteArray) = SY at *
           generalize Pp.freshB y = by_ at *
           clear hcell hys hy hG HY; have hltB' : (kB : Int) < (n1 : Int) := by omega
           go_wp2_with fail; refine (hFy.out _).mono ?_; rintro e w4 ⟨rfl, hb4⟩; have hb24 := hbB.trans (hb4.mono hbB.size); have H4 := hide (HB.out.trans (hb4.mono HB.out.size)); clear hb4 hFy z0 g3; cases by_ with
           | false =>
             have hRf := hnn.out (by first | exact rfl | trivial)
             subst hRf; go_wp2_with fail; go_ret; exact ⟨rfl, (HB0.out.trans ((H0C.out.trans (H4.out.mono H0C.out.size)).mono HB0.out.size))⟩
           | true =>
             have HS := hide (hst.out (by first | exact rfl | trivial))
             go_wp2_with fail
             go_roundw
             case rel => exact ⟨kB + 1, by omega, by go_num, hb24, HS⟩
             case measure => simp [intOf]; omega
         · have HEB := hide (Pp.all_end HBB.out (by rw [<- HN1.out]; omega))
           clear HBB; obtain ⟨wB, rfl⟩ : ∃ wB : World, wB = wr := ⟨_, rfl⟩; go_wp2_with fail; clear g3 hkB hltB hbB
           go_loopw [6] (fun i wr => ∃ k : Nat, k <= n2 /\ i = .int .i64 k /\ Below wB.heap.size wB wr /\ Hid (∀ t ∈ x.fields.take k, Pp.fldB t = true)) (fun i _ => n2 - (intOf i).toNat)
           case atStart => exact ⟨0, Nat.zero_le _, rfl, Below.refl _ _, hide (by simp)⟩
           case round =>
            obtain ⟨kC, hkC, rfl, hbC, HCC⟩ := hrel; have HD := hide (HB.out.trans (hbC.mono HB.out.size)); have g4 : wr.cell? ⟨bc, 4, none⟩ = some (.slice fa n2 fc) := HXC.out wr HD.out 4; by_cases hltC : kC < n2
            · obtain ⟨y, hy⟩ : ∃ y, x.fields[kC]? = some y := ⟨x.fields[kC]'(by rw [<- HN2.out]; exact hltC), List.getElem?_eq_getElem _⟩
              obtain ⟨gC, oC, rfl, ys, hys, hcell⟩ := Sh.row_at2 HF.out hy; have HY := hide hy; have hbF := (HB0.out.trans ((H0C.out.trans (HD.out.mono H0C.out.size)).mono HB0.out.size)); have hG := hide (fun wx (hb : Below wr.heap.size wr wx) => hcell wx (hbF.trans (hb.mono hbF.size))); clear hbF; obtain rfl : ys = _ := hys.1; have z0 := hG.out wr (Below.refl _ _) 0 _ rfl; rw [Nat.add_zero] at z0; have hFy := hide (fun w' => refFresh_any y.name hys.2.1 w'); have hTy := hide (fun w' => TypeText_any y.ty hys.2.2 w')
              have HTy : Hid ((⟨(Pp.typeT y.ty).toArray⟩ : ByteArray).toList.isEmpty = !Pp.typeB y.ty) := hide (by
               cases hb : Pp.typeB y.ty with
               | false => rw [Sh.typeT_no hb, ByteArray.toList_eq]; rfl
               | true => exact sh_nonempty _ (Sh.typeT_ne hb))
              have hfb : Hid (Pp.fldB y = (Pp.freshB y.name && Pp.typeB y.ty)) := rfl; have hst : Hid (Pp.fldB y = true -> ∀ t ∈ x.fields.take (kC + 1), Pp.fldB t = true) := hide (fun h => Pp.all_take HCC.out HY.out h); have hnn : Hid (Pp.fldB y = false -> R = false) := hide (fun hb => hno.out (Sh.no_of HC.out (fun h => by have := h.2.2.2.2.2.2.1 y (List.mem_of_getElem? HY.out); rw [hb] at this; cases this)))
              have hG2 : Hid (∀ wx, Below wr.heap.size wr wx -> wx.cell? ⟨gC, oC + kC * 4 + 1, none⟩ = some (.int .i64 y.ty.kind) /\ wx.cell? ⟨gC, oC + kC * 4 + 2, none⟩ = some (.string ⟨y.ty.name.toArray⟩)) := hide fun wx hb => ⟨hG.out wx hb 1 _ rfl, hG.out wx hb 2 _ rfl⟩; generalize (⟨(Pp.typeT y.ty).toArray⟩ : ByteArray) = TY at *
              generalize (⟨y.name.toArray⟩ : ByteArray) = SY at *
              generalize (⟨y.ty.name.toArray⟩ : ByteArray) = SZ at *
              generalize y.ty.kind = ky at *
              generalize Pp.fldB y = by_ at *
              generalize Pp.freshB y.name = c1 at *
              generalize Pp.typeB y.ty = c2 at *
              clear hcell hys hy hG HY; have hltC' : (kC : Int) < (n2 : Int) := by omega
              go_wp2_with fail; refine (hFy.out _).mono ?_; rintro e w4 ⟨rfl, hb4⟩; have hb24 := hbC.trans (hb4.mono hbC.size); have H4 := hide (HD.out.trans (hb4.mono HD.out.size)); obtain ⟨z1, z2⟩ := hG2.out w4 hb4; have g4' : w4.cell? ⟨bc, 4, none⟩ = some (.slice (some ⟨gC, oC, none⟩) n2 fc) := HXC.out w4 H4.out 4; clear hb4 hFy z0 g4 hG2; cases c1 with
              | false =>
                have hRf := hnn.out hfb.out; subst hRf; go_wp2_with fail; go_ret; exact ⟨rfl, (HB0.out.trans ((H0C.out.trans (H4.out.mono H0C.out.size)).mono HB0.out.size))⟩
              | true =>
                go_wp2_with fail; refine (hTy.out _).mono ?_; rintro e w5 ⟨rfl, hb5⟩; have hb25 := hb24.trans (hb5.mono hb24.size); have H5 := hide (H4.out.trans (hb5.mono H4.out.size)); clear hb5 hTy z1 z2 g4'; cases c2 with
                | false =>
                  have hTe2 : TY.toList.isEmpty = true := HTy.out; have hRf := hnn.out hfb.out; subst hRf; go_wp2_with fail; go_ret; exact ⟨rfl, (HB0.out.trans ((H0C.out.trans (H5.out.mono H0C.out.size)).mono HB0.out.size))⟩
                | true =>
                  have hTe2 : TY.toList.isEmpty = false := HTy.out; have HS := hide (hst.out hfb.out); go_wp2_with fail
                  go_roundw
                  case rel => exact ⟨kC + 1, by omega, by go_num, hb25, HS⟩
                  case measure => simp [intOf]; omega
            · have HEC := hide (Pp.all_end HCC.out (by rw [<- HN2.out]; omega))
              clear HCC; obtain ⟨wC, rfl⟩ : ∃ wC : World, wC = wr := ⟨_, rfl⟩; go_wp2_with fail; clear g4 hkC hltC hbC
              go_loopw [7] (fun i wr => ∃ k : Nat, k <= n3 /\ i = .int .i64 k /\ Below wC.heap.size wC wr /\ Hid (∀ t ∈ x.methods.take k, Pp.mthB t = true)) (fun i _ => n3 - (intOf i).toNat)
              case atStart => exact ⟨0, Nat.zero_le _, rfl, Below.refl _ _, hide (by simp)⟩
              case round =>
               obtain ⟨kD, hkD, rfl, hbD, HDD⟩ := hrel; have HE := hide (HD.out.trans (hbD.mono HD.out.size)); have g5 : wr.cell? ⟨bc, 5, none⟩ = some (.slice ma n3 mc) := HXC.out wr HE.out 5; by_cases hltD : kD < n3
               · obtain ⟨y, hy⟩ : ∃ y, x.methods[kD]? = some y := ⟨x.methods[kD]'(by rw [<- HN3.out]; exact hltD), List.getElem?_eq_getElem _⟩
                 obtain ⟨gD, oD, rfl, ys, hys, hcell⟩ := Sh.row_at2 HM.out hy; have HY := hide hy; have hG := hide (hcell wr (HB0.out.trans ((H0C.out.trans (HE.out.mono H0C.out.size)).mono HB0.out.size))); have hMy := hide (showMethod_any y ys wr (hys.on (HB0.out.trans ((H0C.out.trans (HE.out.mono H0C.out.size)).mono HB0.out.size)))); have hst : Hid (Pp.mthB y = true -> ∀ t ∈ x.methods.take (kD + 1), Pp.mthB t = true) := hide (fun h => Pp.all_take HDD.out HY.out h); have hnn : Hid (Pp.mthB y = false -> R = false) := hide (fun hb => hno.out (Sh.no_of HC.out (fun h => by have := h.2.2.2.2.2.2.2 y (List.mem_of_getElem? HY.out); rw [hb] at this; cases this)))
                 obtain ⟨vp, vc, vk, rfl, x1, x2, x3, x4⟩ := hys; obtain ⟨za, zb, rfl, _⟩ := x1.len; obtain ⟨zc, zd, rfl, _⟩ := x2.len; obtain ⟨ze, zf, rfl, _⟩ := x3.len; clear x1 x2 x3 x4; have z0 := hG.out 0 _ rfl; have z1 := hG.out 1 _ rfl; have z2 := hG.out 2 _ rfl; have z3 := hG.out 3 _ rfl; have z4 := hG.out 4 _ rfl; have z5 := hG.out 5 _ rfl; have z6 := hG.out 6 _ rfl; have z7 := hG.out 7 _ rfl; have z8 := hG.out 8 _ rfl; rw [Nat.add_zero] at z0; simp only [mthXL] at hMy; generalize (⟨y.name.toArray⟩ : ByteArray) = y0 at *
                 generalize y.stat = y1 at *
                 generalize y.abst = y2 at *
                 generalize y.ret.kind = y3 at *
                 generalize (⟨y.ret.name.toArray⟩ : ByteArray) = y4 at *
                 generalize y.locals = y5 at *
                 generalize y.params.length = k1 at *
                 generalize y.code.length = k2 at *
                 generalize y.catches.length = k3 at *
                 generalize Pp.mthB y = by_ at *
                 clear hcell hy hG HY; have hltD' : (kD : Int) < (n3 : Int) := by omega
                 go_wp2_with fail; refine hMy.out.mono ?_; rintro e w4 ⟨rfl, hb4⟩; have hb24 := hbD.trans (hb4.mono hbD.size); have H4 := hide (HE.out.trans (hb4.mono HE.out.size)); clear hb4 hMy z0 z1 z2 z3 z4 z5 z6 z7 z8 g5; cases by_ with
                 | false =>
                   have hRf := hnn.out (by first | exact rfl | trivial)
                   subst hRf; go_wp2_with fail; go_ret; exact ⟨rfl, (HB0.out.trans ((H0C.out.trans (H4.out.mono H0C.out.size)).mono HB0.out.size))⟩
                 | true =>
                   have HS := hide (hst.out (by first | exact rfl | trivial))
                   go_wp2_with fail
                   go_roundw
                   case rel => exact ⟨kD + 1, by omega, by go_num, hb24, HS⟩
                   case measure => simp [intOf]; omega
               · have HED := hide (Pp.all_end HDD.out (by rw [<- HN3.out]; omega))
                 have hRt := HC.out.2 ⟨by first | exact rfl | trivial, HB2.out, by omega, by omega, by omega, HEB.out, HEC.out, HED.out⟩
                 have HS := hide (hstep.out hRt); have HEF := hide (H0C.out.trans (HE.out.mono H0C.out.size)); go_wp2_with fail
                 go_roundw
                 case rel => exact ⟨kA + 1, by omega, by go_num, HEF.out, HS⟩
                 case measure => simp [intOf]; omega
      | false =>
        cases bI with
        | true =>
          have hb2 : b2 = false := by rw [hSu.out, hE]; rfl
          have hRf := hno.out (Sh.no_of HC.out (fun h => by have := h.2.1; rw [hb2] at this; cases this))
          subst hRf; go_wp2_with fail; go_ret; exact ⟨rfl, (HB0.out.trans ((H0C.out.trans (H1.out.mono H0C.out.size)).mono HB0.out.size))⟩
        | false =>
          go_wp2_with fail; refine (hF2.out _).mono ?_; rintro e w2 ⟨rfl, hb2⟩; have H2 := hide (H1.out.trans (hb2.mono H1.out.size)); clear hb2 hF2 f1 f2 f3 f4 f5; cases b3 with
          | false =>
            have hb2 : b2 = false := by rw [hSu.out, hE]; rfl
            have hRf := hno.out (Sh.no_of HC.out (fun h => by have := h.2.1; rw [hb2] at this; cases this))
            subst hRf; go_wp2_with fail; go_ret; exact ⟨rfl, (HB0.out.trans ((H0C.out.trans (H2.out.mono H0C.out.size)).mono HB0.out.size))⟩
          | true =>
            have hb2 : b2 = true := by rw [hSu.out, hE]; rfl
            have HB2 := hide hb2; clear hb2; have f3 : w2.cell? ⟨bc, 3, none⟩ = some (.slice ia n1 ic) := HXC.out w2 H2.out 3; have f4 : w2.cell? ⟨bc, 4, none⟩ = some (.slice fa n2 fc) := HXC.out w2 H2.out 4; have f5 : w2.cell? ⟨bc, 5, none⟩ = some (.slice ma n3 mc) := HXC.out w2 H2.out 5; by_cases e1 : 4 < n1
            · have e1' : (4 : Int) < (n1 : Int) := by omega
              have hRf := hno.out (Sh.no_of HC.out (fun h => by have := h.2.2.1; omega))
              subst hRf; go_wp2_with fail; go_ret; exact ⟨rfl, (HB0.out.trans ((H0C.out.trans (H2.out.mono H0C.out.size)).mono HB0.out.size))⟩
            have e1' : ¬ (4 : Int) < (n1 : Int) := by omega
            by_cases e2 : 6 < n2
            · have e2' : (6 : Int) < (n2 : Int) := by omega
              have hRf := hno.out (Sh.no_of HC.out (fun h => by have := h.2.2.2.1; omega))
              subst hRf; go_wp2_with fail; go_ret; exact ⟨rfl, (HB0.out.trans ((H0C.out.trans (H2.out.mono H0C.out.size)).mono HB0.out.size))⟩
            have e2' : ¬ (6 : Int) < (n2 : Int) := by omega
            by_cases e3 : 6 < n3
            · have e3' : (6 : Int) < (n3 : Int) := by omega
              have hRf := hno.out (Sh.no_of HC.out (fun h => by have := h.2.2.2.2.1; omega))
              subst hRf; go_wp2_with fail; go_ret; exact ⟨rfl, (HB0.out.trans ((H0C.out.trans (H2.out.mono H0C.out.size)).mono HB0.out.size))⟩
            have e3' : ¬ (6 : Int) < (n3 : Int) := by omega
            go_wp2_with fail; clear f3 f4 f5
            go_loopw [5] (fun i wr => ∃ k : Nat, k <= n1 /\ i = .int .i64 k /\ Below w2.heap.size w2 wr /\ Hid (∀ t ∈ x.ifaces.take k, Pp.freshB t = true)) (fun i _ => n1 - (intOf i).toNat)
            case atStart => exact ⟨0, Nat.zero_le _, rfl, Below.refl _ _, hide (by simp)⟩
            case round =>
             obtain ⟨kB, hkB, rfl, hbB, HBB⟩ := hrel; have HB := hide (H2.out.trans (hbB.mono H2.out.size)); have g3 : wr.cell? ⟨bc, 3, none⟩ = some (.slice ia n1 ic) := HXC.out wr HB.out 3; by_cases hltB : kB < n1
             · obtain ⟨y, hy⟩ : ∃ y, x.ifaces[kB]? = some y := ⟨x.ifaces[kB]'(by rw [<- HN1.out]; exact hltB), List.getElem?_eq_getElem _⟩
               obtain ⟨gB, oB, rfl, ys, hys, hcell⟩ := Sh.row_at2 HI.out hy; have HY := hide hy; have hG := hide (hcell wr (HB0.out.trans ((H0C.out.trans (HB.out.mono H0C.out.size)).mono HB0.out.size))); obtain rfl : ys = _ := hys.1; have z0 := hG.out 0 _ rfl; rw [Nat.add_zero, Nat.mul_one] at z0; have hFy := hide (fun w' => refFresh_any y hys.2 w'); have hst : Hid (Pp.freshB y = true -> ∀ t ∈ x.ifaces.take (kB + 1), Pp.freshB t = true) := hide (fun h => Pp.all_take HBB.out HY.out h); have hnn : Hid (Pp.freshB y = false -> R = false) := hide (fun hb => hno.out (Sh.no_of HC.out (fun h => by have := h.2.2.2.2.2.1 y (List.mem_of_getElem? HY.out); rw [hb] at this; cases this)))
               generalize (⟨y.toArray⟩ : ByteArray) = SY at *
               generalize Pp.freshB y = by_ at *
               clear hcell hys hy hG HY; have hltB' : (kB : Int) < (n1 : Int) := by omega
               go_wp2_with fail; refine (hFy.out _).mono ?_; rintro e w4 ⟨rfl, hb4⟩; have hb24 := hbB.trans (hb4.mono hbB.size); have H4 := hide (HB.out.trans (hb4.mono HB.out.size)); clear hb4 hFy z0 g3; cases by_ with
               | false =>
                 have hRf := hnn.out (by first | exact rfl | trivial)
                 subst hRf; go_wp2_with fail; go_ret; exact ⟨rfl, (HB0.out.trans ((H0C.out.trans (H4.out.mono H0C.out.size)).mono HB0.out.size))⟩
               | true =>
                 have HS := hide (hst.out (by first | exact rfl | trivial))
                 go_wp2_with fail
                 go_roundw
                 case rel => exact ⟨kB + 1, by omega, by go_num, hb24, HS⟩
                 case measure => simp [intOf]; omega
             · have HEB := hide (Pp.all_end HBB.out (by rw [<- HN1.out]; omega))
               clear HBB; obtain ⟨wB, rfl⟩ : ∃ wB : World, wB = wr := ⟨_, rfl⟩; go_wp2_with fail; clear g3 hkB hltB hbB
               go_loopw [6] (fun i wr => ∃ k : Nat, k <= n2 /\ i = .int .i64 k /\ Below wB.heap.size wB wr /\ Hid (∀ t ∈ x.fields.take k, Pp.fldB t = true)) (fun i _ => n2 - (intOf i).toNat)
               case atStart => exact ⟨0, Nat.zero_le _, rfl, Below.refl _ _, hide (by simp)⟩
               case round =>
                obtain ⟨kC, hkC, rfl, hbC, HCC⟩ := hrel; have HD := hide (HB.out.trans (hbC.mono HB.out.size)); have g4 : wr.cell? ⟨bc, 4, none⟩ = some (.slice fa n2 fc) := HXC.out wr HD.out 4; by_cases hltC : kC < n2
                · obtain ⟨y, hy⟩ : ∃ y, x.fields[kC]? = some y := ⟨x.fields[kC]'(by rw [<- HN2.out]; exact hltC), List.getElem?_eq_getElem _⟩
                  obtain ⟨gC, oC, rfl, ys, hys, hcell⟩ := Sh.row_at2 HF.out hy; have HY := hide hy; have hbF := (HB0.out.trans ((H0C.out.trans (HD.out.mono H0C.out.size)).mono HB0.out.size)); have hG := hide (fun wx (hb : Below wr.heap.size wr wx) => hcell wx (hbF.trans (hb.mono hbF.size))); clear hbF; obtain rfl : ys = _ := hys.1; have z0 := hG.out wr (Below.refl _ _) 0 _ rfl; rw [Nat.add_zero] at z0; have hFy := hide (fun w' => refFresh_any y.name hys.2.1 w'); have hTy := hide (fun w' => TypeText_any y.ty hys.2.2 w')
                  have HTy : Hid ((⟨(Pp.typeT y.ty).toArray⟩ : ByteArray).toList.isEmpty = !Pp.typeB y.ty) := hide (by
                   cases hb : Pp.typeB y.ty with
                   | false => rw [Sh.typeT_no hb, ByteArray.toList_eq]; rfl
                   | true => exact sh_nonempty _ (Sh.typeT_ne hb))
                  have hfb : Hid (Pp.fldB y = (Pp.freshB y.name && Pp.typeB y.ty)) := rfl; have hst : Hid (Pp.fldB y = true -> ∀ t ∈ x.fields.take (kC + 1), Pp.fldB t = true) := hide (fun h => Pp.all_take HCC.out HY.out h); have hnn : Hid (Pp.fldB y = false -> R = false) := hide (fun hb => hno.out (Sh.no_of HC.out (fun h => by have := h.2.2.2.2.2.2.1 y (List.mem_of_getElem? HY.out); rw [hb] at this; cases this)))
                  have hG2 : Hid (∀ wx, Below wr.heap.size wr wx -> wx.cell? ⟨gC, oC + kC * 4 + 1, none⟩ = some (.int .i64 y.ty.kind) /\ wx.cell? ⟨gC, oC + kC * 4 + 2, none⟩ = some (.string ⟨y.ty.name.toArray⟩)) := hide fun wx hb => ⟨hG.out wx hb 1 _ rfl, hG.out wx hb 2 _ rfl⟩; generalize (⟨(Pp.typeT y.ty).toArray⟩ : ByteArray) = TY at *
                  generalize (⟨y.name.toArray⟩ : ByteArray) = SY at *
                  generalize (⟨y.ty.name.toArray⟩ : ByteArray) = SZ at *
                  generalize y.ty.kind = ky at *
                  generalize Pp.fldB y = by_ at *
                  generalize Pp.freshB y.name = c1 at *
                  generalize Pp.typeB y.ty = c2 at *
                  clear hcell hys hy hG HY; have hltC' : (kC : Int) < (n2 : Int) := by omega
                  go_wp2_with fail; refine (hFy.out _).mono ?_; rintro e w4 ⟨rfl, hb4⟩; have hb24 := hbC.trans (hb4.mono hbC.size); have H4 := hide (HD.out.trans (hb4.mono HD.out.size)); obtain ⟨z1, z2⟩ := hG2.out w4 hb4; have g4' : w4.cell? ⟨bc, 4, none⟩ = some (.slice (some ⟨gC, oC, none⟩) n2 fc) := HXC.out w4 H4.out 4; clear hb4 hFy z0 g4 hG2; cases c1 with
                  | false =>
                    have hRf := hnn.out hfb.out; subst hRf; go_wp2_with fail; go_ret; exact ⟨rfl, (HB0.out.trans ((H0C.out.trans (H4.out.mono H0C.out.size)).mono HB0.out.size))⟩
                  | true =>
                    go_wp2_with fail; refine (hTy.out _).mono ?_; rintro e w5 ⟨rfl, hb5⟩; have hb25 := hb24.trans (hb5.mono hb24.size); have H5 := hide (H4.out.trans (hb5.mono H4.out.size)); clear hb5 hTy z1 z2 g4'; cases c2 with
                    | false =>
                      have hTe2 : TY.toList.isEmpty = true := HTy.out; have hRf := hnn.out hfb.out; subst hRf; go_wp2_with fail; go_ret; exact ⟨rfl, (HB0.out.trans ((H0C.out.trans (H5.out.mono H0C.out.size)).mono HB0.out.size))⟩
                    | true =>
                      have hTe2 : TY.toList.isEmpty = false := HTy.out; have HS := hide (hst.out hfb.out); go_wp2_with fail
                      go_roundw
                      case rel => exact ⟨kC + 1, by omega, by go_num, hb25, HS⟩
                      case measure => simp [intOf]; omega
                · have HEC := hide (Pp.all_end HCC.out (by rw [<- HN2.out]; omega))
                  clear HCC; obtain ⟨wC, rfl⟩ : ∃ wC : World, wC = wr := ⟨_, rfl⟩; go_wp2_with fail; clear g4 hkC hltC hbC
                  go_loopw [7] (fun i wr => ∃ k : Nat, k <= n3 /\ i = .int .i64 k /\ Below wC.heap.size wC wr /\ Hid (∀ t ∈ x.methods.take k, Pp.mthB t = true)) (fun i _ => n3 - (intOf i).toNat)
                  case atStart => exact ⟨0, Nat.zero_le _, rfl, Below.refl _ _, hide (by simp)⟩
                  case round =>
                   obtain ⟨kD, hkD, rfl, hbD, HDD⟩ := hrel; have HE := hide (HD.out.trans (hbD.mono HD.out.size)); have g5 : wr.cell? ⟨bc, 5, none⟩ = some (.slice ma n3 mc) := HXC.out wr HE.out 5; by_cases hltD : kD < n3
                   · obtain ⟨y, hy⟩ : ∃ y, x.methods[kD]? = some y := ⟨x.methods[kD]'(by rw [<- HN3.out]; exact hltD), List.getElem?_eq_getElem _⟩
                     obtain ⟨gD, oD, rfl, ys, hys, hcell⟩ := Sh.row_at2 HM.out hy; have HY := hide hy; have hG := hide (hcell wr (HB0.out.trans ((H0C.out.trans (HE.out.mono H0C.out.size)).mono HB0.out.size))); have hMy := hide (showMethod_any y ys wr (hys.on (HB0.out.trans ((H0C.out.trans (HE.out.mono H0C.out.size)).mono HB0.out.size)))); have hst : Hid (Pp.mthB y = true -> ∀ t ∈ x.methods.take (kD + 1), Pp.mthB t = true) := hide (fun h => Pp.all_take HDD.out HY.out h); have hnn : Hid (Pp.mthB y = false -> R = false) := hide (fun hb => hno.out (Sh.no_of HC.out (fun h => by have := h.2.2.2.2.2.2.2 y (List.mem_of_getElem? HY.out); rw [hb] at this; cases this)))
                     obtain ⟨vp, vc, vk, rfl, x1, x2, x3, x4⟩ := hys; obtain ⟨za, zb, rfl, _⟩ := x1.len; obtain ⟨zc, zd, rfl, _⟩ := x2.len; obtain ⟨ze, zf, rfl, _⟩ := x3.len; clear x1 x2 x3 x4; have z0 := hG.out 0 _ rfl; have z1 := hG.out 1 _ rfl; have z2 := hG.out 2 _ rfl; have z3 := hG.out 3 _ rfl; have z4 := hG.out 4 _ rfl; have z5 := hG.out 5 _ rfl; have z6 := hG.out 6 _ rfl; have z7 := hG.out 7 _ rfl; have z8 := hG.out 8 _ rfl; rw [Nat.add_zero] at z0; simp only [mthXL] at hMy; generalize (⟨y.name.toArray⟩ : ByteArray) = y0 at *
                     generalize y.stat = y1 at *
                     generalize y.abst = y2 at *
                     generalize y.ret.kind = y3 at *
                     generalize (⟨y.ret.name.toArray⟩ : ByteArray) = y4 at *
                     generalize y.locals = y5 at *
                     generalize y.params.length = k1 at *
                     generalize y.code.length = k2 at *
                     generalize y.catches.length = k3 at *
                     generalize Pp.mthB y = by_ at *
                     clear hcell hy hG HY; have hltD' : (kD : Int) < (n3 : Int) := by omega
                     go_wp2_with fail; refine hMy.out.mono ?_; rintro e w4 ⟨rfl, hb4⟩; have hb24 := hbD.trans (hb4.mono hbD.size); have H4 := hide (HE.out.trans (hb4.mono HE.out.size)); clear hb4 hMy z0 z1 z2 z3 z4 z5 z6 z7 z8 g5; cases by_ with
                     | false =>
                       have hRf := hnn.out (by first | exact rfl | trivial)
                       subst hRf; go_wp2_with fail; go_ret; exact ⟨rfl, (HB0.out.trans ((H0C.out.trans (H4.out.mono H0C.out.size)).mono HB0.out.size))⟩
                     | true =>
                       have HS := hide (hst.out (by first | exact rfl | trivial))
                       go_wp2_with fail
                       go_roundw
                       case rel => exact ⟨kD + 1, by omega, by go_num, hb24, HS⟩
                       case measure => simp [intOf]; omega
                   · have HED := hide (Pp.all_end HDD.out (by rw [<- HN3.out]; omega))
                     have hRt := HC.out.2 ⟨by first | exact rfl | trivial, HB2.out, by omega, by omega, by omega, HEB.out, HEC.out, HED.out⟩
                     have HS := hide (hstep.out hRt); have HEF := hide (H0C.out.trans (HE.out.mono H0C.out.size)); go_wp2_with fail
                     go_roundw
                     case rel => exact ⟨kA + 1, by omega, by go_num, HEF.out, HS⟩
                     case measure => simp [intOf]; omega
  · have HEA := hide (Pp.all_end HAA.out (by rw [<- HL.out]; omega))
    have hRt := HIF.out.2 ⟨by omega, HEA.out⟩
    subst hRt; go_wp2_with fail; go_ret; exact ⟨rfl, HWA.out⟩
end Go.Proofs.YtjlappamkfjlkaaGreatDoor
