/- What the laws of this seat lean on: 1 texts. -/
import Derived.Test.YtbbbnciejmdpfabGreatDoorPkAb
set_option maxRecDepth 100000
set_option maxHeartbeats 64000000
set_option linter.unusedVariables false
set_option linter.unusedSimpArgs false
namespace Go.Proofs.YtbbbnciejmdpfabGreatDoor
open Go.RowKit
namespace Hv
theorem row_at {α : Type} {W : World} {sz : Nat} {P : α -> List Value -> Prop} {a : Option Addr} {n c : Nat} {l : List α} (h : RowX W sz P (.slice a n c) l) {k : Nat} {x : α} (hx : l[k]? = some x) : ∃ b o, a = some ⟨b, o, none⟩ /\ ∃ ys, P x ys /\ ∀ wx, Below W.heap.size W wx -> ∀ (j : Nat) (u : Value), ys[j]? = some u -> wx.cell? ⟨b, o + k * sz + j, none⟩ = some u := by
 obtain ⟨a', c', e, hc, h⟩ := h; injection e with e1 e2 e3; subst e1
 rcases h with rfl | ⟨b, o, rfl, hlt, hr⟩
 · simp at hx
 · obtain ⟨ys, h1, h2⟩ := hr k x hx
   exact ⟨b, o, rfl, ys, h1, fun wx hb j u hj => (hb.cell (by exact hlt)).trans (h2 j u hj)⟩
def Is (cs : List Pp.XCls) (e : Ending) : Prop := ∃ b, e = .returned (.bool b) /\ (b = false -> Pp.Light cs)
theorem yes (cs : List Pp.XCls) : Is cs (.returned (.bool true)) := ⟨true, rfl, fun h => by cases h⟩
theorem no {cs : List Pp.XCls} (h : Pp.Light cs) : Is cs (.returned (.bool false)) := ⟨false, rfl, fun _ => h⟩
end Hv
theorem Heavy_any (cs : List Pp.XCls) (v : Value) (w : World) (h : ProgX w v cs) :
 Calls Tryz.prog 4 #[.agg #[v]] w fun e w' => Hv.Is cs e /\ Below w.heap.size w w' := by
 obtain ⟨pa, pc, rfl, _⟩ := h.1.len; obtain ⟨len, hlen⟩ : ∃ len, len = cs.length := ⟨_, rfl⟩; have HL := hide hlen; have HX := hide h.1; rw [<- hlen] at HX ⊢; clear h hlen; by_cases h14 : 14 < len
 · have h14' : (14 : Int) < (len : Int) := by omega
   go_enter Tryz.func4, Tryz.ntmps4; go_wp2_with fail; go_ret; exact ⟨Hv.yes _, (Below.refl _ _).alloc (Nat.le_refl _) _⟩
 have h14' : ¬ (14 : Int) < (len : Int) := by omega
 have HB0 : Hid (Below w.heap.size w (w.alloc (.cells #[.slice pa len pc] 24))) := hide ((Below.refl _ _).alloc (Nat.le_refl _) _); have hp0 : (w.alloc (.cells #[.slice pa len pc] 24)).cell? ⟨w.heap.size, 0, none⟩ = some (.slice pa len pc) := cell_box (heap_alloc_new w _) 0; have hs0 : w.heap.size < (w.alloc (.cells #[.slice pa len pc] 24)).heap.size := by simp
 go_enter Tryz.func4, Tryz.ntmps4; go_wp2_with fail; generalize w.alloc (.cells #[.slice pa len pc] 24) = w0 at *
 generalize w.heap.size = bp at hp0 hs0 ⊢
 go_loopw [3] (fun i wr => ∃ k : Nat, k <= len /\ i = .int .i64 k /\ Below w0.heap.size w0 wr /\ Hid (∀ y ∈ cs.take k, Pp.LtC y)) (fun i _ => len - (intOf i).toNat)
 case atStart => exact ⟨0, Nat.zero_le _, rfl, Below.refl _ _, hide (by simp)⟩
 case round =>
  obtain ⟨kA, hkA, rfl, hbA, HA⟩ := hrel; have pA := (hbA.cell (p := ⟨bp, 0, none⟩) (by exact hs0)).trans hp0
  have HBA := hide (HB0.out.trans (hbA.mono HB0.out.size)); have hsA := hbA.size; by_cases hltA : kA < len
  · obtain ⟨x, hx⟩ : ∃ x, cs[kA]? = some x := ⟨cs[kA]'(by rw [<- HL.out]; exact hltA), List.getElem?_eq_getElem _⟩
    obtain ⟨g, o, rfl, ys, hy, hcell⟩ := Hv.row_at HX.out hx; have HX2 := hide hx; have hG := hide (hcell wr HBA.out); obtain ⟨vi, vf, vm, rfl, x1, x2, x3, x4⟩ := hy; obtain ⟨ia, ic, rfl, _⟩ := x1.len; obtain ⟨fa, fc, rfl, _⟩ := x2.len; obtain ⟨ma, mc, rfl, _⟩ := x3.len; have r0 := hG.out 0 _ rfl; have r1 := hG.out 1 _ rfl; have r2 := hG.out 2 _ rfl; have r3 := hG.out 3 _ rfl; have r4 := hG.out 4 _ rfl; have r5 := hG.out 5 _ rfl; rw [Nat.add_zero] at r0; obtain ⟨n1, hn1⟩ : ∃ n, n = x.ifaces.length := ⟨_, rfl⟩; obtain ⟨n2, hn2⟩ : ∃ n, n = x.fields.length := ⟨_, rfl⟩; obtain ⟨n3, hn3⟩ : ∃ n, n = x.methods.length := ⟨_, rfl⟩; have HN1 := hide hn1; have HN2 := hide hn2; have HN3 := hide hn3; rw [<- hn1] at r3 x1; rw [<- hn2] at r4 x2; rw [<- hn3] at r5 x3; have HI := hide x1; have HF := hide x2; have HM := hide x3; obtain ⟨S0, hS0⟩ : ∃ S : ByteArray, S = ⟨x.name.toArray⟩ := ⟨_, rfl⟩; obtain ⟨S2, hS2⟩ : ∃ S : ByteArray, S = ⟨x.super.toArray⟩ := ⟨_, rfl⟩; rw [<- hS0] at r0; rw [<- hS2] at r2; have HS0 : Hid (x.name.length = S0.size) := hide (by rw [hS0]; simp [ByteArray.size])
    have HS2 : Hid (x.super.length = S2.size) := hide (by rw [hS2]; simp [ByteArray.size])
    generalize x.iface = bI at r1; clear hcell x1 x2 x3 x4 hG hn1 hn2 hn3 hS0 hS2 hx HX; have hltA' : (kA : Int) < (len : Int) := by omega
    have HBc : Hid (∀ o, Below w.heap.size w (wr.alloc o)) := hide fun o => HBA.out.alloc HBA.out.size _; by_cases e1 : 14 < n2
    · have e1' : (14 : Int) < (n2 : Int) := by omega
      go_wp2_with fail; go_ret; exact ⟨Hv.yes _, HBc.out _⟩
    have e1' : ¬ (14 : Int) < (n2 : Int) := by omega
    by_cases e2 : 14 < n3
    · have e2' : (14 : Int) < (n3 : Int) := by omega
      go_wp2_with fail; go_ret; exact ⟨Hv.yes _, HBc.out _⟩
    have e2' : ¬ (14 : Int) < (n3 : Int) := by omega
    by_cases e3 : 10 < n1
    · have e3' : (10 : Int) < (n1 : Int) := by omega
      go_wp2_with fail; go_ret; exact ⟨Hv.yes _, HBc.out _⟩
    have e3' : ¬ (10 : Int) < (n1 : Int) := by omega
    by_cases e4 : 60 < S0.size
    · have e4' : (60 : Int) < (S0.size : Int) := by omega
      go_wp2_with fail; go_ret; exact ⟨Hv.yes _, HBc.out _⟩
    have e4' : ¬ (60 : Int) < (S0.size : Int) := by omega
    by_cases e5 : 60 < S2.size
    · have e5' : (60 : Int) < (S2.size : Int) := by omega
      go_wp2_with fail; go_ret; exact ⟨Hv.yes _, HBc.out _⟩
    have e5' : ¬ (60 : Int) < (S2.size : Int) := by omega
    have hc : ∀ j, (wr.alloc (.cells #[.string S0, .bool bI, .string S2, .slice ia n1 ic, .slice fa n2 fc, .slice ma n3 mc] 33)).cell? ⟨wr.heap.size, j, none⟩ = #[Value.string S0, .bool bI, .string S2, .slice ia n1 ic, .slice fa n2 fc, .slice ma n3 mc][j]? := fun j => cell_box (heap_alloc_new wr _) j; have c3 := hc 3; have c4 := hc 4; have c5 := hc 5; have pB : (wr.alloc (.cells #[.string S0, .bool bI, .string S2, .slice ia n1 ic, .slice fa n2 fc, .slice ma n3 mc] 33)).cell? ⟨bp, 0, none⟩ = some (.slice (some ⟨g, o, none⟩) len pc) := ((Below.alloc (Below.refl wr.heap.size wr) (Nat.le_refl _) _).cell (p := ⟨bp, 0, none⟩) (by show bp < wr.heap.size; omega)).trans pA
    have HBC := hide (HBc.out (.cells #[.string S0, .bool bI, .string S2, .slice ia n1 ic, .slice fa n2 fc, .slice ma n3 mc] 33)); have H0C := hide (hbA.alloc hbA.size (.cells #[.string S0, .bool bI, .string S2, .slice ia n1 ic, .slice fa n2 fc, .slice ma n3 mc] 33)); have hsC : wr.heap.size < (wr.alloc (.cells #[.string S0, .bool bI, .string S2, .slice ia n1 ic, .slice fa n2 fc, .slice ma n3 mc] 33)).heap.size := by simp
    go_wp2_with fail; clear hc HBc pA r0 r1 r2 r3 r4 r5 HBA; generalize wr.alloc (.cells #[.string S0, .bool bI, .string S2, .slice ia n1 ic, .slice fa n2 fc, .slice ma n3 mc] 33) = wc at *
    clear hbA; generalize wr.heap.size = bc at hsC c3 c4 c5 hsA ⊢
    go_loopw [5] (fun i wr => ∃ k : Nat, k <= n2 /\ i = .int .i64 k /\ Below wc.heap.size wc wr /\ Hid (∀ y ∈ x.fields.take k, Pp.LtF y)) (fun i _ => n2 - (intOf i).toNat)
    case atStart => exact ⟨0, Nat.zero_le _, rfl, Below.refl _ _, hide (by simp)⟩
    case round =>
     obtain ⟨kB, hkB, rfl, hbB, HAB⟩ := hrel; have qB := (hbB.cell (p := ⟨bc, 4, none⟩) (by exact hsC)).trans c4
     have HBB := hide (HBC.out.trans (hbB.mono HBC.out.size)); by_cases hltB : kB < n2
     · obtain ⟨y, hy⟩ : ∃ y, x.fields[kB]? = some y := ⟨x.fields[kB]'(by rw [<- HN2.out]; exact hltB), List.getElem?_eq_getElem _⟩
       obtain ⟨gB, oB, rfl, ys, hys, hcell⟩ := Hv.row_at HF.out hy; have HY := hide hy; have hG := hide (hcell wr HBB.out); obtain rfl : ys = _ := hys.1; clear hcell hys hy; have z0 := hG.out 0 _ rfl; rw [Nat.add_zero] at z0; obtain ⟨T0, hT0⟩ : ∃ S : ByteArray, S = ⟨y.name.toArray⟩ := ⟨_, rfl⟩; rw [<- hT0] at z0; have HT0 : Hid (y.name.length = T0.size) := hide (by rw [hT0]; simp [ByteArray.size])
       clear hT0; have z2 := hG.out 2 _ rfl; obtain ⟨T2, hT2⟩ : ∃ S : ByteArray, S = ⟨y.ty.name.toArray⟩ := ⟨_, rfl⟩; rw [<- hT2] at z2; have HT2 : Hid (y.ty.name.length = T2.size) := hide (by rw [hT2]; simp [ByteArray.size])
       clear hT2; clear hG; have hltB' : (kB : Int) < (n2 : Int) := by omega
       by_cases t0 : 60 < T0.size
       · have t0' : (60 : Int) < (T0.size : Int) := by omega
         go_wp2_with fail; go_ret; exact ⟨Hv.yes _, HBB.out⟩
       have t0' : ¬ (60 : Int) < (T0.size : Int) := by omega
       by_cases t2 : 60 < T2.size
       · have t2' : (60 : Int) < (T2.size : Int) := by omega
         go_wp2_with fail; go_ret; exact ⟨Hv.yes _, HBB.out⟩
       have t2' : ¬ (60 : Int) < (T2.size : Int) := by omega
       have HR := hide (Pp.all_take HAB.out HY.out ⟨by rw [HT0.out]; omega, by rw [HT2.out]; omega⟩)
       clear HY; go_wp2_with fail
       go_roundw
       case rel => exact ⟨kB + 1, by omega, by go_num, hbB, HR⟩
       case measure => simp [intOf]; omega
     · have HEB := hide (Pp.all_end HAB.out (by rw [<- HN2.out]; omega))
       clear HAB; have cB3 := (hbB.cell (p := ⟨bc, 3, none⟩) (by exact hsC)).trans c3
       have cB5 := (hbB.cell (p := ⟨bc, 5, none⟩) (by exact hsC)).trans c5
       have pB2 := (hbB.cell (p := ⟨bp, 0, none⟩) (by show bp < wc.heap.size; omega)).trans pB
       have H0B := hide (H0C.out.trans (hbB.mono H0C.out.size)); have hsB := Nat.lt_of_lt_of_le hsC hbB.size; clear c3 c4 c5 pB H0C HF HBC; obtain ⟨wB, rfl⟩ : ∃ wB : World, wB = wr := ⟨_, rfl⟩; go_wp2_with fail; clear qB hkB hltB hbB
       go_loopw [6] (fun i wr => ∃ k : Nat, k <= n1 /\ i = .int .i64 k /\ Below wB.heap.size wB wr /\ Hid (∀ y ∈ x.ifaces.take k, Pp.LtS y)) (fun i _ => n1 - (intOf i).toNat)
       case atStart => exact ⟨0, Nat.zero_le _, rfl, Below.refl _ _, hide (by simp)⟩
       case round =>
        obtain ⟨kC, hkC, rfl, hbC, HAC⟩ := hrel; have qC := (hbC.cell (p := ⟨bc, 3, none⟩) (by exact hsB)).trans cB3
        have HBC := hide (HBB.out.trans (hbC.mono HBB.out.size)); by_cases hltC : kC < n1
        · obtain ⟨y, hy⟩ : ∃ y, x.ifaces[kC]? = some y := ⟨x.ifaces[kC]'(by rw [<- HN1.out]; exact hltC), List.getElem?_eq_getElem _⟩
          obtain ⟨gC, oC, rfl, ys, hys, hcell⟩ := Hv.row_at HI.out hy; have HY := hide hy; have hG := hide (hcell wr HBC.out); obtain rfl : ys = _ := hys.1; clear hcell hys hy; have z0 := hG.out 0 _ rfl; rw [Nat.add_zero] at z0; obtain ⟨T0, hT0⟩ : ∃ S : ByteArray, S = ⟨y.toArray⟩ := ⟨_, rfl⟩; rw [<- hT0] at z0; have HT0 : Hid (y.length = T0.size) := hide (by rw [hT0]; simp [ByteArray.size])
          clear hT0; rw [Nat.mul_one] at z0; clear hG; have hltC' : (kC : Int) < (n1 : Int) := by omega
          by_cases t0 : 60 < T0.size
          · have t0' : (60 : Int) < (T0.size : Int) := by omega
            go_wp2_with fail; go_ret; exact ⟨Hv.yes _, HBC.out⟩
          have t0' : ¬ (60 : Int) < (T0.size : Int) := by omega
          have HR := hide (Pp.all_take HAC.out HY.out (show Pp.LtS y from by unfold Pp.LtS; rw [HT0.out]; omega))
          clear HY; go_wp2_with fail
          go_roundw
          case rel => exact ⟨kC + 1, by omega, by go_num, hbC, HR⟩
          case measure => simp [intOf]; omega
        · have HEC := hide (Pp.all_end HAC.out (by rw [<- HN1.out]; omega))
          clear HAC; have cC5 := (hbC.cell (p := ⟨bc, 5, none⟩) (by exact hsB)).trans cB5
          have pC2 := (hbC.cell (p := ⟨bp, 0, none⟩) (by show bp < wB.heap.size; omega)).trans pB2
          have H0Cc := hide (H0B.out.trans (hbC.mono H0B.out.size)); have hsCc := Nat.lt_of_lt_of_le hsB hbC.size; clear cB3 cB5 pB2 H0B HI HBB; obtain ⟨wC, rfl⟩ : ∃ wC : World, wC = wr := ⟨_, rfl⟩; go_wp2_with fail; clear qC hkC hltC hbC
          go_loopw [7] (fun i wr => ∃ k : Nat, k <= n3 /\ i = .int .i64 k /\ Below wC.heap.size wC wr /\ Hid (∀ y ∈ x.methods.take k, Pp.LtM y)) (fun i _ => n3 - (intOf i).toNat)
          case atStart => exact ⟨0, Nat.zero_le _, rfl, Below.refl _ _, hide (by simp)⟩
          case round =>
           obtain ⟨kD, hkD, rfl, hbD, HAD⟩ := hrel; have qD := (hbD.cell (p := ⟨bc, 5, none⟩) (by exact hsCc)).trans cC5
           have HBD := hide (HBC.out.trans (hbD.mono HBC.out.size)); by_cases hltD : kD < n3
           · obtain ⟨m, hm⟩ : ∃ m, x.methods[kD]? = some m := ⟨x.methods[kD]'(by rw [<- HN3.out]; exact hltD), List.getElem?_eq_getElem _⟩
             obtain ⟨gD, oD, rfl, ys, hys, hcell⟩ := Hv.row_at HM.out hm; have HMM := hide hm; have hG := hide (hcell wr HBD.out); obtain ⟨vp, vc, vk, rfl, y1, y2, y3, y4⟩ := hys; obtain ⟨da, dc, rfl, _⟩ := y1.len; obtain ⟨ea, ec, rfl, _⟩ := y2.len; obtain ⟨fa', fc', rfl, _⟩ := y3.len; have r0 := hG.out 0 _ rfl; have r1 := hG.out 1 _ rfl; have r2 := hG.out 2 _ rfl; have r3 := hG.out 3 _ rfl; have r4 := hG.out 4 _ rfl; have r5 := hG.out 5 _ rfl; have r6 := hG.out 6 _ rfl; have r7 := hG.out 7 _ rfl; have r8 := hG.out 8 _ rfl; rw [Nat.add_zero] at r0; obtain ⟨m1, hm1⟩ : ∃ n, n = m.params.length := ⟨_, rfl⟩; obtain ⟨m2, hm2⟩ : ∃ n, n = m.code.length := ⟨_, rfl⟩; obtain ⟨m3, hm3⟩ : ∃ n, n = m.catches.length := ⟨_, rfl⟩; have HM1 := hide hm1; have HM2 := hide hm2; have HM3 := hide hm3; rw [<- hm1] at r3 y1; rw [<- hm2] at r7 y2; rw [<- hm3] at r8 y3; have HY1 := hide y1; have HY2 := hide y2; have HY3 := hide y3; obtain ⟨U0, hU0⟩ : ∃ S : ByteArray, S = ⟨m.name.toArray⟩ := ⟨_, rfl⟩; obtain ⟨U5, hU5⟩ : ∃ S : ByteArray, S = ⟨m.ret.name.toArray⟩ := ⟨_, rfl⟩; rw [<- hU0] at r0; rw [<- hU5] at r5; have HU0 : Hid (m.name.length = U0.size) := hide (by rw [hU0]; simp [ByteArray.size])
             have HU5 : Hid (m.ret.name.length = U5.size) := hide (by rw [hU5]; simp [ByteArray.size])
             generalize m.stat = b1 at r1; generalize m.abst = b2 at r2; generalize m.ret.kind = i4 at r4; generalize m.locals = i6 at r6; clear hcell y1 y2 y3 y4 hG hm1 hm2 hm3 hU0 hU5 hm HM; have hltD' : (kD : Int) < (n3 : Int) := by omega
             have HBd : Hid (∀ o, Below w.heap.size w (wr.alloc o)) := hide fun o => HBD.out.alloc HBD.out.size _; by_cases d1 : 60 < U0.size
             · have d1' : (60 : Int) < (U0.size : Int) := by omega
               go_wp2_with fail; go_ret; exact ⟨Hv.yes _, HBd.out _⟩
             have d1' : ¬ (60 : Int) < (U0.size : Int) := by omega
             by_cases d2 : 10 < m1
             · have d2' : (10 : Int) < (m1 : Int) := by omega
               go_wp2_with fail; go_ret; exact ⟨Hv.yes _, HBd.out _⟩
             have d2' : ¬ (10 : Int) < (m1 : Int) := by omega
             by_cases d3 : 60 < m2
             · have d3' : (60 : Int) < (m2 : Int) := by omega
               go_wp2_with fail; go_ret; exact ⟨Hv.yes _, HBd.out _⟩
             have d3' : ¬ (60 : Int) < (m2 : Int) := by omega
             by_cases d4 : 10 < m3
             · have d4' : (10 : Int) < (m3 : Int) := by omega
               go_wp2_with fail; go_ret; exact ⟨Hv.yes _, HBd.out _⟩
             have d4' : ¬ (10 : Int) < (m3 : Int) := by omega
             by_cases d5 : 60 < U5.size
             · have d5' : (60 : Int) < (U5.size : Int) := by omega
               go_wp2_with fail; go_ret; exact ⟨Hv.yes _, HBd.out _⟩
             have d5' : ¬ (60 : Int) < (U5.size : Int) := by omega
             have hc : ∀ j, (wr.alloc (.cells #[.string U0, .bool b1, .bool b2, .slice da m1 dc, .int .i64 i4, .string U5, .int .i64 i6, .slice ea m2 ec, .slice fa' m3 fc'] 48)).cell? ⟨wr.heap.size, j, none⟩ = #[Value.string U0, .bool b1, .bool b2, .slice da m1 dc, .int .i64 i4, .string U5, .int .i64 i6, .slice ea m2 ec, .slice fa' m3 fc'][j]? := fun j => cell_box (heap_alloc_new wr _) j; have j3 := hc 3; have j7 := hc 7; have j8 := hc 8; have pD := ((Below.alloc hbD hbD.size (.cells #[.string U0, .bool b1, .bool b2, .slice da m1 dc, .int .i64 i4, .string U5, .int .i64 i6, .slice ea m2 ec, .slice fa' m3 fc'] 48)).cell (p := ⟨bp, 0, none⟩) (by show bp < wC.heap.size; omega)).trans pC2
             have cD5 := ((Below.alloc hbD hbD.size (.cells #[.string U0, .bool b1, .bool b2, .slice da m1 dc, .int .i64 i4, .string U5, .int .i64 i6, .slice ea m2 ec, .slice fa' m3 fc'] 48)).cell (p := ⟨bc, 5, none⟩) (by exact hsCc)).trans cC5
             have HDD := hide (HBd.out (.cells #[.string U0, .bool b1, .bool b2, .slice da m1 dc, .int .i64 i4, .string U5, .int .i64 i6, .slice ea m2 ec, .slice fa' m3 fc'] 48)); have HCD := hide (hbD.alloc hbD.size (.cells #[.string U0, .bool b1, .bool b2, .slice da m1 dc, .int .i64 i4, .string U5, .int .i64 i6, .slice ea m2 ec, .slice fa' m3 fc'] 48)); have hsD : wr.heap.size < (wr.alloc (.cells #[.string U0, .bool b1, .bool b2, .slice da m1 dc, .int .i64 i4, .string U5, .int .i64 i6, .slice ea m2 ec, .slice fa' m3 fc'] 48)).heap.size := by simp
             go_wp2_with fail; clear hc HBd r0 r1 r2 r3 r4 r5 r6 r7 r8 qD; generalize wr.alloc (.cells #[.string U0, .bool b1, .bool b2, .slice da m1 dc, .int .i64 i4, .string U5, .int .i64 i6, .slice ea m2 ec, .slice fa' m3 fc'] 48) = wm at *
             clear HBD; generalize wr.heap.size = bm at hsD j3 j7 j8 ⊢
             go_loopw [9] (fun i wr => ∃ k : Nat, k <= m2 /\ i = .int .i64 k /\ Below wm.heap.size wm wr /\ Hid (∀ y ∈ m.code.take k, Pp.LtI y)) (fun i _ => m2 - (intOf i).toNat)
             case atStart => exact ⟨0, Nat.zero_le _, rfl, Below.refl _ _, hide (by simp)⟩
             case round =>
              obtain ⟨kE, hkE, rfl, hbE, HAE⟩ := hrel; have qE := (hbE.cell (p := ⟨bm, 7, none⟩) (by exact hsD)).trans j7
              have HBE := hide (HDD.out.trans (hbE.mono HDD.out.size)); by_cases hltE : kE < m2
              · obtain ⟨y, hy⟩ : ∃ y, m.code[kE]? = some y := ⟨m.code[kE]'(by rw [<- HM2.out]; exact hltE), List.getElem?_eq_getElem _⟩
                obtain ⟨gE, oE, rfl, ys, hys, hcell⟩ := Hv.row_at HY2.out hy; have HY := hide hy; have hG := hide (hcell wr HBE.out); obtain rfl : ys = _ := hys.1; clear hcell hys hy; have z2 := hG.out 2 _ rfl; obtain ⟨T2, hT2⟩ : ∃ S : ByteArray, S = ⟨y.a.toArray⟩ := ⟨_, rfl⟩; rw [<- hT2] at z2; have HT2 : Hid (y.a.length = T2.size) := hide (by rw [hT2]; simp [ByteArray.size])
                clear hT2; have z3 := hG.out 3 _ rfl; obtain ⟨T3, hT3⟩ : ∃ S : ByteArray, S = ⟨y.b.toArray⟩ := ⟨_, rfl⟩; rw [<- hT3] at z3; have HT3 : Hid (y.b.length = T3.size) := hide (by rw [hT3]; simp [ByteArray.size])
                clear hT3; clear hG; have hltE' : (kE : Int) < (m2 : Int) := by omega
                by_cases t2 : 60 < T2.size
                · have t2' : (60 : Int) < (T2.size : Int) := by omega
                  go_wp2_with fail; go_ret; exact ⟨Hv.yes _, HBE.out⟩
                have t2' : ¬ (60 : Int) < (T2.size : Int) := by omega
                by_cases t3 : 60 < T3.size
                · have t3' : (60 : Int) < (T3.size : Int) := by omega
                  go_wp2_with fail; go_ret; exact ⟨Hv.yes _, HBE.out⟩
                have t3' : ¬ (60 : Int) < (T3.size : Int) := by omega
                have HR := hide (Pp.all_take HAE.out HY.out ⟨by rw [HT2.out]; omega, by rw [HT3.out]; omega⟩)
                clear HY; go_wp2_with fail
                go_roundw
                case rel => exact ⟨kE + 1, by omega, by go_num, hbE, HR⟩
                case measure => simp [intOf]; omega
              · have HEE := hide (Pp.all_end HAE.out (by rw [<- HM2.out]; omega))
                clear HAE; have jE3 := (hbE.cell (p := ⟨bm, 3, none⟩) (by exact hsD)).trans j3
                have jE8 := (hbE.cell (p := ⟨bm, 8, none⟩) (by exact hsD)).trans j8
                have HCE := hide (HCD.out.trans (hbE.mono HCD.out.size)); have hsE := Nat.lt_of_lt_of_le hsD hbE.size; clear j3 j7 j8 HCD HY2 HDD pD cD5; obtain ⟨wE, rfl⟩ : ∃ wE : World, wE = wr := ⟨_, rfl⟩; go_wp2_with fail; clear qE hkE hltE hbE
                go_loopw [10] (fun i wr => ∃ k : Nat, k <= m1 /\ i = .int .i64 k /\ Below wE.heap.size wE wr /\ Hid (∀ y ∈ m.params.take k, Pp.LtT y)) (fun i _ => m1 - (intOf i).toNat)
                case atStart => exact ⟨0, Nat.zero_le _, rfl, Below.refl _ _, hide (by simp)⟩
                case round =>
                 obtain ⟨kF, hkF, rfl, hbF, HAF⟩ := hrel; have qF := (hbF.cell (p := ⟨bm, 3, none⟩) (by exact hsE)).trans jE3
                 have HBF := hide (HBE.out.trans (hbF.mono HBE.out.size)); by_cases hltF : kF < m1
                 · obtain ⟨y, hy⟩ : ∃ y, m.params[kF]? = some y := ⟨m.params[kF]'(by rw [<- HM1.out]; exact hltF), List.getElem?_eq_getElem _⟩
                   obtain ⟨gF, oF, rfl, ys, hys, hcell⟩ := Hv.row_at HY1.out hy; have HY := hide hy; have hG := hide (hcell wr HBF.out); obtain rfl : ys = _ := hys.1; clear hcell hys hy; have z1 := hG.out 1 _ rfl; obtain ⟨T1, hT1⟩ : ∃ S : ByteArray, S = ⟨y.name.toArray⟩ := ⟨_, rfl⟩; rw [<- hT1] at z1; have HT1 : Hid (y.name.length = T1.size) := hide (by rw [hT1]; simp [ByteArray.size])
                   clear hT1; clear hG; have hltF' : (kF : Int) < (m1 : Int) := by omega
                   by_cases t1 : 60 < T1.size
                   · have t1' : (60 : Int) < (T1.size : Int) := by omega
                     go_wp2_with fail; go_ret; exact ⟨Hv.yes _, HBF.out⟩
                   have t1' : ¬ (60 : Int) < (T1.size : Int) := by omega
                   have HR := hide (Pp.all_take HAF.out HY.out (show Pp.LtT y from by unfold Pp.LtT; rw [HT1.out]; omega))
                   clear HY; go_wp2_with fail
                   go_roundw
                   case rel => exact ⟨kF + 1, by omega, by go_num, hbF, HR⟩
                   case measure => simp [intOf]; omega
                 · have HEF := hide (Pp.all_end HAF.out (by rw [<- HM1.out]; omega))
                   clear HAF; have jF8 := (hbF.cell (p := ⟨bm, 8, none⟩) (by exact hsE)).trans jE8
                   have HCF := hide (HCE.out.trans (hbF.mono HCE.out.size)); have hsF := Nat.lt_of_lt_of_le hsE hbF.size; clear jE3 jE8 HCE HY1 HBE; obtain ⟨wF, rfl⟩ : ∃ wF : World, wF = wr := ⟨_, rfl⟩; go_wp2_with fail; clear qF hkF hltF hbF
                   go_loopw [11] (fun i wr => ∃ k : Nat, k <= m3 /\ i = .int .i64 k /\ Below wF.heap.size wF wr /\ Hid (∀ y ∈ m.catches.take k, Pp.LtK y)) (fun i _ => m3 - (intOf i).toNat)
                   case atStart => exact ⟨0, Nat.zero_le _, rfl, Below.refl _ _, hide (by simp)⟩
                   case round =>
                    obtain ⟨kG, hkG, rfl, hbG, HAG⟩ := hrel; have qG := (hbG.cell (p := ⟨bm, 8, none⟩) (by exact hsF)).trans jF8
                    have HBG := hide (HBF.out.trans (hbG.mono HBF.out.size)); by_cases hltG : kG < m3
                    · obtain ⟨y, hy⟩ : ∃ y, m.catches[kG]? = some y := ⟨m.catches[kG]'(by rw [<- HM3.out]; exact hltG), List.getElem?_eq_getElem _⟩
                      obtain ⟨gG, oG, rfl, ys, hys, hcell⟩ := Hv.row_at HY3.out hy; have HY := hide hy; have hG := hide (hcell wr HBG.out); obtain rfl : ys = _ := hys.1; clear hcell hys hy; have z0 := hG.out 0 _ rfl; rw [Nat.add_zero] at z0; obtain ⟨T0, hT0⟩ : ∃ S : ByteArray, S = ⟨y.name.toArray⟩ := ⟨_, rfl⟩; rw [<- hT0] at z0; have HT0 : Hid (y.name.length = T0.size) := hide (by rw [hT0]; simp [ByteArray.size])
                      clear hT0; clear hG; have hltG' : (kG : Int) < (m3 : Int) := by omega
                      by_cases t0 : 60 < T0.size
                      · have t0' : (60 : Int) < (T0.size : Int) := by omega
                        go_wp2_with fail; go_ret; exact ⟨Hv.yes _, HBG.out⟩
                      have t0' : ¬ (60 : Int) < (T0.size : Int) := by omega
                      have HR := hide (Pp.all_take HAG.out HY.out (show Pp.LtK y from by unfold Pp.LtK; rw [HT0.out]; omega))
                      clear HY; go_wp2_with fail
                      go_roundw
                      case rel => exact ⟨kG + 1, by omega, by go_num, hbG, HR⟩
                      case measure => simp [intOf]; omega
                    · have HEG := hide (Pp.all_end HAG.out (by rw [<- HM3.out]; omega))
                      clear HAG; have HCG := hide (HCF.out.trans (hbG.mono HCF.out.size)); have HOK : Hid (∀ y ∈ x.methods.take (kD + 1), Pp.LtM y) := hide (Pp.all_take HAD.out HMM.out ⟨⟨by rw [HU0.out]; omega, by rw [<- HM1.out]; omega, by rw [<- HM2.out]; omega, by rw [<- HM3.out]; omega, by rw [HU5.out]; omega⟩, HEE.out, HEF.out, HEG.out⟩)
                      go_wp2_with fail
                      go_roundw
                      case rel => exact ⟨kD + 1, by omega, by go_num, HCG.out, HOK⟩
                      case measure => simp [intOf]; omega
           · have HED := hide (Pp.all_end HAD.out (by rw [<- HN3.out]; omega))
             have H0D := hide (H0Cc.out.trans (hbD.mono H0Cc.out.size)); have HOK : Hid (∀ y ∈ cs.take (kA + 1), Pp.LtC y) := hide (Pp.all_take HA.out HX2.out ⟨⟨by rw [<- HN2.out]; omega, by rw [<- HN3.out]; omega, by rw [<- HN1.out]; omega, by rw [HS0.out]; omega, by rw [HS2.out]; omega⟩, HEB.out, HEC.out, HED.out⟩)
             go_wp2_with fail
             go_roundw
             case rel => exact ⟨kA + 1, by omega, by go_num, H0D.out, HOK⟩
             case measure => simp [intOf]; omega
  · have HEA := hide (Pp.all_end HA.out (by rw [<- HL.out]; omega))
    go_wp2_with fail; go_ret; exact ⟨Hv.no ⟨by rw [<- HL.out]; omega, HEA.out⟩, HBA.out⟩
end Go.Proofs.YtbbbnciejmdpfabGreatDoor
