/- What the laws of this seat lean on: 2 texts. -/
import Derived.Test.YtbbbnciejmdpfaaGreatDoorPkAq
import Derived.Test.YtbbbnciejmdpfaaGreatDoorPkAa
set_option maxRecDepth 100000
set_option maxHeartbeats 64000000
set_option linter.unusedVariables false
set_option linter.unusedSimpArgs false
namespace Go.Proofs.YtbbbnciejmdpfaaGreatDoor
open Go.RowKit
namespace Sh
theorem mthB_all (m : Pp.XMth) : Pp.mthB m = true ↔ Pp.freshB m.name = true /\ m.params.length <= 4 /\ (∀ t ∈ m.params, Pp.typeB t = true) /\ Pp.typeB m.ret = true /\ m.code.length <= 48 /\ (∀ i ∈ m.code, Pp.insB i = true) /\ m.catches.length <= 4 /\ (∀ c ∈ m.catches, Pp.ctcB c = true) /\ Pp.withinB m.locals 0 8 = true /\ (m.abst = true -> m.locals = 0 /\ m.code = [] /\ m.catches = []) := by
 obtain ⟨n, st, ab, ps, rt, lo, co, ca⟩ := m; unfold Pp.mthB Pp.bodyB; simp only [Bool.and_eq_true, Pp.eachB_iff]; cases ab with
 | true =>
   simp only [if_true, Bool.and_eq_true, beq_iff_eq, List.isEmpty_iff, forall_const]; constructor
   · rintro ⟨h1, ⟨h2, h3⟩, h4, rfl, rfl, rfl⟩
     exact ⟨h1, h2, h3, h4, by simp, by simp, by simp, by simp, by decide, rfl, rfl, rfl⟩
   · rintro ⟨h1, h2, h3, h4, _, _, _, _, _, h5, h6, h7⟩
     exact ⟨h1, ⟨h2, h3⟩, h4, h5, h6, h7⟩
 | false =>
   simp only [Bool.false_eq_true, if_false, Bool.and_eq_true, Pp.eachB_iff, false_implies, and_true]; constructor
   · rintro ⟨h1, ⟨h2, h3⟩, h4, h5, ⟨h6, h7⟩, h8, h9⟩
     exact ⟨h1, h2, h3, h4, h6, h7, h8, h9, h5⟩
   · rintro ⟨h1, h2, h3, h4, h6, h7, h8, h9, h5⟩
     exact ⟨h1, ⟨h2, h3⟩, h4, h5, ⟨h6, h7⟩, h8, h9⟩
theorem row_at2 {α : Type} {W : World} {sz : Nat} {P : α -> List Value -> Prop} {a : Option Addr} {n c : Nat} {l : List α} (h : RowX W sz P (.slice a n c) l) {k : Nat} {x : α} (hx : l[k]? = some x) : ∃ b o, a = some ⟨b, o, none⟩ /\ ∃ ys, P x ys /\ ∀ wx, Below W.heap.size W wx -> ∀ (j : Nat) (u : Value), ys[j]? = some u -> wx.cell? ⟨b, o + k * sz + j, none⟩ = some u := by
 obtain ⟨a', c', e, hc, h⟩ := h; injection e with e1 e2 e3; subst e1
 rcases h with rfl | ⟨b, o, rfl, hlt, hr⟩
 · simp at hx
 · obtain ⟨ys, h1, h2⟩ := hr k x hx
   exact ⟨b, o, rfl, ys, h1, fun wx hb j u hj => (hb.cell (by exact hlt)).trans (h2 j u hj)⟩
theorem no_of {b : Bool} {P : Prop} (h : b = true ↔ P) (hp : ¬ P) : b = false := Bool.eq_false_iff.2 fun e => hp (h.1 e)
end Sh
theorem showMethod_any (m : Pp.XMth) (ys : List Value) (w : World) (h : MthX w m ys) :
 Calls Tryz.prog 69 #[.agg ys.toArray] w fun e w' => e = .returned (.bool (Pp.mthB m)) /\ Below w.heap.size w w' := by
 have HIF := hide (Sh.mthB_all m); obtain ⟨vp, vc, vk, rfl, x1, x2, x3, x4⟩ := h; obtain ⟨n, st, ab, ps, rt, lo, co, ca⟩ := m; simp only at x1 x2 x3 x4 HIF; obtain ⟨y1, y2, y3, y4, y5⟩ := x4; have hF := hide (fun w' => refFresh_any n y1 w'); have hT := hide (fun w' => TypeText_any rt y2 w'); have hW := hide (fun w' => ref_in_any lo 0 8 w'); have HP := hide x1; have HC := hide x2; have HK := hide x3; obtain ⟨pa, pc, rfl, _⟩ := x1.len; obtain ⟨cq, cc, rfl, _⟩ := x2.len; obtain ⟨kq, kc, rfl, _⟩ := x3.len; clear x1 x2 x3 y1 y2; simp only [mthXL, List.toArray]; obtain ⟨n3, hn3⟩ : ∃ k, k = ps.length := ⟨_, rfl⟩; obtain ⟨n1, hn1⟩ : ∃ k, k = co.length := ⟨_, rfl⟩; obtain ⟨n2, hn2⟩ : ∃ k, k = ca.length := ⟨_, rfl⟩; have HN3 := hide hn3; have HN1 := hide hn1; have HN2 := hide hn2; rw [<- hn3] at HP y3 ⊢; rw [<- hn1] at HC y4 ⊢; rw [<- hn2] at HK y5 ⊢; rw [<- hn3, <- hn1, <- hn2] at HIF; clear hn3 hn1 hn2; unfold maxLen at y3 y4 y5; generalize Pp.mthB ⟨n, st, ab, ps, rt, lo, co, ca⟩ = R at *
 have HTn : Hid ((⟨(Pp.typeT rt).toArray⟩ : ByteArray).toList.isEmpty = !Pp.typeB rt) := hide (by
  cases hb : Pp.typeB rt with
  | false => rw [Sh.typeT_no hb, ByteArray.toList_eq]; rfl
  | true => exact sh_nonempty _ (Sh.typeT_ne hb))
 generalize (⟨(Pp.typeT rt).toArray⟩ : ByteArray) = TS at *
 generalize (⟨n.toArray⟩ : ByteArray) = S0 at *
 generalize (⟨rt.name.toArray⟩ : ByteArray) = S1 at *
 generalize Pp.freshB n = b1 at *
 generalize Pp.typeB rt = b2 at *
 have HWB : Hid (Pp.withinB lo 0 8 = true -> 0 <= lo /\ lo <= 8) := hide (fun h => (Pp.withinB_iff _ _ _).1 h); generalize Pp.withinB lo 0 8 = b3 at *
 generalize rt.kind = rk at *
 have HB0 : Hid (Below w.heap.size w (w.alloc (.cells #[.string S0, .bool st, .bool ab, .slice pa n3 pc, .int .i64 rk, .string S1, .int .i64 lo, .slice cq n1 cc, .slice kq n2 kc] 57))) := hide ((Below.refl _ _).alloc (Nat.le_refl _) _)
 have HX : Hid (∀ wx, Below (w.alloc (.cells #[.string S0, .bool st, .bool ab, .slice pa n3 pc, .int .i64 rk, .string S1, .int .i64 lo, .slice cq n1 cc, .slice kq n2 kc] 57)).heap.size (w.alloc (.cells #[.string S0, .bool st, .bool ab, .slice pa n3 pc, .int .i64 rk, .string S1, .int .i64 lo, .slice cq n1 cc, .slice kq n2 kc] 57)) wx -> ∀ j, wx.cell? ⟨w.heap.size, j, none⟩ = #[Value.string S0, .bool st, .bool ab, .slice pa n3 pc, .int .i64 rk, .string S1, .int .i64 lo, .slice cq n1 cc, .slice kq n2 kc][j]?) := hide fun wx hb j => by
  have := hb.cell (p := ⟨w.heap.size, j, none⟩) (by show w.heap.size < _; simp)
  exact this.trans (cell_box (heap_alloc_new w _) j)
 go_enter Tryz.func69, Tryz.ntmps69; go_wp2_with fail; generalize w.alloc _ = w0 at *
 generalize w.heap.size = bm at HX ⊢; refine (hF.out _).mono ?_; rintro e w1 ⟨rfl, hb1⟩; have H1 := hide hb1; clear hb1 hF; cases b1 with
 | false =>
   have hRf := Sh.no_of HIF.out (fun h => by have := h.1; cases this)
   subst hRf; go_wp2_with fail; go_ret; exact ⟨rfl, (HB0.out.trans (H1.out.mono HB0.out.size))⟩
 | true =>
   have f2 : w1.cell? ⟨bm, 2, none⟩ = some (.bool ab) := HX.out w1 H1.out 2; have f3 : w1.cell? ⟨bm, 3, none⟩ = some (.slice pa n3 pc) := HX.out w1 H1.out 3; have f4 : w1.cell? ⟨bm, 4, none⟩ = some (.int .i64 rk) := HX.out w1 H1.out 4; have f5 : w1.cell? ⟨bm, 5, none⟩ = some (.string S1) := HX.out w1 H1.out 5; have f6 : w1.cell? ⟨bm, 6, none⟩ = some (.int .i64 lo) := HX.out w1 H1.out 6; have f7 : w1.cell? ⟨bm, 7, none⟩ = some (.slice cq n1 cc) := HX.out w1 H1.out 7; have f8 : w1.cell? ⟨bm, 8, none⟩ = some (.slice kq n2 kc) := HX.out w1 H1.out 8; by_cases e1 : 4 < n3
   · have e1' : (4 : Int) < (n3 : Int) := by omega
     have hRf := Sh.no_of HIF.out (fun h => by have := h.2.1; omega)
     subst hRf; go_wp2_with fail; go_ret; exact ⟨rfl, (HB0.out.trans (H1.out.mono HB0.out.size))⟩
   have e1' : ¬ (4 : Int) < (n3 : Int) := by omega
   go_wp2_with fail; refine (hT.out _).mono ?_; rintro e w2 ⟨rfl, hb2⟩; have H2 := hide (H1.out.trans (hb2.mono H1.out.size)); clear hb2 hT f2 f3 f4 f5 f6 f7 f8 H1; cases b2 with
   | false =>
     have hTe : TS.toList.isEmpty = true := HTn.out; have hRf := Sh.no_of HIF.out (fun h => by have := h.2.2.2.1; cases this)
     subst hRf; go_wp2_with fail; go_ret; exact ⟨rfl, (HB0.out.trans (H2.out.mono HB0.out.size))⟩
   | true =>
     have hTe : TS.toList.isEmpty = false := HTn.out; have f2 : w2.cell? ⟨bm, 2, none⟩ = some (.bool ab) := HX.out w2 H2.out 2; have f3 : w2.cell? ⟨bm, 3, none⟩ = some (.slice pa n3 pc) := HX.out w2 H2.out 3; have f6 : w2.cell? ⟨bm, 6, none⟩ = some (.int .i64 lo) := HX.out w2 H2.out 6; have f7 : w2.cell? ⟨bm, 7, none⟩ = some (.slice cq n1 cc) := HX.out w2 H2.out 7; have f8 : w2.cell? ⟨bm, 8, none⟩ = some (.slice kq n2 kc) := HX.out w2 H2.out 8; by_cases e2 : 48 < n1
     · have e2' : (48 : Int) < (n1 : Int) := by omega
       have hRf := Sh.no_of HIF.out (fun h => by have := h.2.2.2.2.1; omega)
       subst hRf; go_wp2_with fail; go_ret; exact ⟨rfl, (HB0.out.trans (H2.out.mono HB0.out.size))⟩
     have e2' : ¬ (48 : Int) < (n1 : Int) := by omega
     by_cases e3 : 4 < n2
     · have e3' : (4 : Int) < (n2 : Int) := by omega
       have hRf := Sh.no_of HIF.out (fun h => by have := h.2.2.2.2.2.2.1; omega)
       subst hRf; go_wp2_with fail; go_ret; exact ⟨rfl, (HB0.out.trans (H2.out.mono HB0.out.size))⟩
     have e3' : ¬ (4 : Int) < (n2 : Int) := by omega
     go_wp2_with fail; refine (hW.out _).mono ?_; rintro e wq ⟨rfl, hwq⟩; have hwq := hwq.symm; subst hwq; clear hW; cases b3 with
     | false =>
       have hRf := Sh.no_of HIF.out (fun h => by have := h.2.2.2.2.2.2.2.2.1; cases this)
       subst hRf; go_wp2_with fail; go_ret; exact ⟨rfl, (HB0.out.trans (H2.out.mono HB0.out.size))⟩
     | true =>
       have hlo : 0 <= lo /\ lo <= 8 := HWB.out (by first | exact rfl | trivial)
       cases ab with
       | false =>
         have HAB : Hid (false = true -> lo = 0 /\ co = [] /\ ca = []) := hide (fun h => by cases h)
         go_wp2_with fail; clear f2 f3 f6 f7 f8
         go_loopw [3] (fun i wr => ∃ k : Nat, k <= n3 /\ i = .int .i64 k /\ Below w2.heap.size w2 wr /\ Hid (∀ t ∈ ps.take k, Pp.typeB t = true)) (fun i _ => n3 - (intOf i).toNat)
         case atStart => exact ⟨0, Nat.zero_le _, rfl, Below.refl _ _, hide (by simp)⟩
         case round =>
          obtain ⟨kA, hkA, rfl, hbA, HAA⟩ := hrel; have HA := hide (H2.out.trans (hbA.mono H2.out.size)); have g3 : wr.cell? ⟨bm, 3, none⟩ = some (.slice pa n3 pc) := HX.out wr HA.out 3; by_cases hltA : kA < n3
          · obtain ⟨y, hy⟩ : ∃ y, ps[kA]? = some y := ⟨ps[kA]'(by rw [<- HN3.out]; exact hltA), List.getElem?_eq_getElem _⟩
            obtain ⟨gA, oA, rfl, ys, hys, hcell⟩ := Sh.row_at2 HP.out hy; have HY := hide hy; have hG := hide (hcell wr (HB0.out.trans (HA.out.mono HB0.out.size))); obtain rfl : ys = _ := hys.1; have z0 := hG.out 0 _ rfl; have z1 := hG.out 1 _ rfl; rw [Nat.add_zero] at z0; have hTy := hide (fun w' => TypeText_any y hys.2 w')
            have HTy : Hid ((⟨(Pp.typeT y).toArray⟩ : ByteArray).toList.isEmpty = !Pp.typeB y) := hide (by
             cases hb : Pp.typeB y with
             | false => rw [Sh.typeT_no hb, ByteArray.toList_eq]; rfl
             | true => exact sh_nonempty _ (Sh.typeT_ne hb))
            have hstep : Hid (Pp.typeB y = true -> ∀ t ∈ ps.take (kA + 1), Pp.typeB t = true) := hide (fun h => Pp.all_take HAA.out HY.out h); have hno : Hid (Pp.typeB y = false -> R = false) := hide (fun hb => Sh.no_of HIF.out (fun h => by have := h.2.2.1 y (List.mem_of_getElem? HY.out); rw [hb] at this; cases this))
            generalize (⟨(Pp.typeT y).toArray⟩ : ByteArray) = TY at *
            generalize (⟨y.name.toArray⟩ : ByteArray) = SY at *
            generalize y.kind = ky at *
            generalize Pp.typeB y = by_ at *
            clear hcell hys hy hG HY; have hltA' : (kA : Int) < (n3 : Int) := by omega
            go_wp2_with fail; refine (hTy.out _).mono ?_; rintro e w4 ⟨rfl, hb4⟩; have hb24 := hbA.trans (hb4.mono hbA.size); have H4 := hide (HA.out.trans (hb4.mono HA.out.size)); clear hb4 hTy z0 z1 g3; cases by_ with
            | false =>
              have hTe2 : TY.toList.isEmpty = true := HTy.out; have hRf := hno.out (by first | exact rfl | trivial)
              subst hRf; go_wp2_with fail; go_ret; exact ⟨rfl, (HB0.out.trans (H4.out.mono HB0.out.size))⟩
            | true =>
              have hTe2 : TY.toList.isEmpty = false := HTy.out; have HS := hide (hstep.out (by first | exact rfl | trivial))
              go_wp2_with fail
              go_roundw
              case rel => exact ⟨kA + 1, by omega, by go_num, hb24, HS⟩
              case measure => simp [intOf]; omega
          · have HEA := hide (Pp.all_end HAA.out (by rw [<- HN3.out]; omega))
            clear HAA; obtain ⟨wA, rfl⟩ : ∃ wA : World, wA = wr := ⟨_, rfl⟩; go_wp2_with fail; clear g3 hkA hltA hbA
            go_loopw [4] (fun i wr => ∃ k : Nat, k <= n1 /\ i = .int .i64 k /\ Below wA.heap.size wA wr /\ Hid (∀ t ∈ co.take k, Pp.insB t = true)) (fun i _ => n1 - (intOf i).toNat)
            case atStart => exact ⟨0, Nat.zero_le _, rfl, Below.refl _ _, hide (by simp)⟩
            case round =>
             obtain ⟨kB, hkB, rfl, hbB, HBB⟩ := hrel; have HB := hide (HA.out.trans (hbB.mono HA.out.size)); have g7 : wr.cell? ⟨bm, 7, none⟩ = some (.slice cq n1 cc) := HX.out wr HB.out 7; by_cases hltB : kB < n1
             · obtain ⟨y, hy⟩ : ∃ y, co[kB]? = some y := ⟨co[kB]'(by rw [<- HN1.out]; exact hltB), List.getElem?_eq_getElem _⟩
               obtain ⟨gB, oB, rfl, ys, hys, hcell⟩ := Sh.row_at2 HC.out hy; have HY := hide hy; have hG := hide (hcell wr (HB0.out.trans (HB.out.mono HB0.out.size))); obtain rfl : ys = _ := hys.1; have z0 := hG.out 0 _ rfl; have z1 := hG.out 1 _ rfl; have z2 := hG.out 2 _ rfl; have z3 := hG.out 3 _ rfl; rw [Nat.add_zero] at z0; have hIy := hide (fun w' => showInstr_any y hys.2.1 hys.2.2 w'); have hstep : Hid (Pp.insB y = true -> ∀ t ∈ co.take (kB + 1), Pp.insB t = true) := hide (fun h => Pp.all_take HBB.out HY.out h); have hno : Hid (Pp.insB y = false -> R = false) := hide (fun hb => Sh.no_of HIF.out (fun h => by have := h.2.2.2.2.2.1 y (List.mem_of_getElem? HY.out); rw [hb] at this; cases this))
               generalize y.op = q0 at *
               generalize y.n = q1 at *
               generalize (⟨y.a.toArray⟩ : ByteArray) = q2 at *
               generalize (⟨y.b.toArray⟩ : ByteArray) = q3 at *
               generalize Pp.insB y = by_ at *
               clear hcell hys hy hG HY; have hltB' : (kB : Int) < (n1 : Int) := by omega
               go_wp2_with fail; refine (hIy.out _).mono ?_; rintro e w4 ⟨rfl, hb4⟩; have hb24 := hbB.trans (hb4.mono hbB.size); have H4 := hide (HB.out.trans (hb4.mono HB.out.size)); clear hb4 hIy z0 z1 z2 z3 g7; cases by_ with
               | false =>
                 have hRf := hno.out (by first | exact rfl | trivial)
                 subst hRf; go_wp2_with fail; go_ret; exact ⟨rfl, (HB0.out.trans (H4.out.mono HB0.out.size))⟩
               | true =>
                 have HS := hide (hstep.out (by first | exact rfl | trivial))
                 go_wp2_with fail
                 go_roundw
                 case rel => exact ⟨kB + 1, by omega, by go_num, hb24, HS⟩
                 case measure => simp [intOf]; omega
             · have HEB := hide (Pp.all_end HBB.out (by rw [<- HN1.out]; omega))
               clear HBB; obtain ⟨wB, rfl⟩ : ∃ wB : World, wB = wr := ⟨_, rfl⟩; go_wp2_with fail; clear g7 hkB hltB hbB
               go_loopw [5] (fun i wr => ∃ k : Nat, k <= n2 /\ i = .int .i64 k /\ Below wB.heap.size wB wr /\ Hid (∀ t ∈ ca.take k, Pp.ctcB t = true)) (fun i _ => n2 - (intOf i).toNat)
               case atStart => exact ⟨0, Nat.zero_le _, rfl, Below.refl _ _, hide (by simp)⟩
               case round =>
                obtain ⟨kC, hkC, rfl, hbC, HCC⟩ := hrel; have HD := hide (HB.out.trans (hbC.mono HB.out.size)); have g8 : wr.cell? ⟨bm, 8, none⟩ = some (.slice kq n2 kc) := HX.out wr HD.out 8; by_cases hltC : kC < n2
                · obtain ⟨y, hy⟩ : ∃ y, ca[kC]? = some y := ⟨ca[kC]'(by rw [<- HN2.out]; exact hltC), List.getElem?_eq_getElem _⟩
                  obtain ⟨gC, oC, rfl, ys, hys, hcell⟩ := Sh.row_at2 HK.out hy; have HY := hide hy; have hG := hide (hcell wr (HB0.out.trans (HD.out.mono HB0.out.size))); obtain rfl : ys = _ := hys.1; have z0 := hG.out 0 _ rfl; have z1 := hG.out 1 _ rfl; have z2 := hG.out 2 _ rfl; have z3 := hG.out 3 _ rfl; rw [Nat.add_zero] at z0; have hFy := hide (fun w' => refFresh_any y.name hys.2 w'); have hW1 := hide (fun w' => ref_in_any y.lo 0 48 w'); have hW2 := hide (fun w' => ref_in_any y.hi 0 48 w'); have hW3 := hide (fun w' => ref_in_any y.pc 0 48 w'); have hcb : Hid (Pp.ctcB y = (Pp.freshB y.name && (Pp.withinB y.lo 0 48 && (Pp.withinB y.hi 0 48 && Pp.withinB y.pc 0 48)))) := rfl; have hstep : Hid (Pp.ctcB y = true -> ∀ t ∈ ca.take (kC + 1), Pp.ctcB t = true) := hide (fun h => Pp.all_take HCC.out HY.out h); have hno : Hid (Pp.ctcB y = false -> R = false) := hide (fun hb => Sh.no_of HIF.out (fun h => by have := h.2.2.2.2.2.2.2.1 y (List.mem_of_getElem? HY.out); rw [hb] at this; cases this))
                  generalize Pp.ctcB y = by_ at *
                  generalize Pp.freshB y.name = c1 at *
                  generalize Pp.withinB y.lo 0 48 = c2 at *
                  generalize Pp.withinB y.hi 0 48 = c3 at *
                  generalize Pp.withinB y.pc 0 48 = c4 at *
                  generalize (⟨y.name.toArray⟩ : ByteArray) = q0 at *
                  generalize y.lo = q1 at *
                  generalize y.hi = q2 at *
                  generalize y.pc = q3 at *
                  clear hcell hys hy hG HY; have hltC' : (kC : Int) < (n2 : Int) := by omega
                  go_wp2_with fail; refine (hFy.out _).mono ?_; rintro e w4 ⟨rfl, hb4⟩; obtain ⟨B4, HBx, hsz4⟩ := box_one hb4; have t1 : w4.cell? ⟨wr.heap.size, 1, none⟩ = some (.int .i64 q1) := B4 1; have t2 : w4.cell? ⟨wr.heap.size, 2, none⟩ = some (.int .i64 q2) := B4 2; have t3 : w4.cell? ⟨wr.heap.size, 3, none⟩ = some (.int .i64 q3) := B4 3; have hb24 := hbC.trans (HBx.mono hbC.size); have H4 := hide (HD.out.trans (HBx.mono HD.out.size)); clear hb4 hFy z0 z1 z2 z3 g8 B4 HBx; cases c1 with
                  | false =>
                    have hRf := hno.out hcb.out; subst hRf; go_wp2_with fail; go_ret; exact ⟨rfl, (HB0.out.trans (H4.out.mono HB0.out.size))⟩
                  | true =>
                    go_wp2_with fail; refine (hW1.out _).mono ?_; rintro e wq ⟨rfl, hwq⟩; subst hwq; cases c2 with
                    | false =>
                      have hRf := hno.out hcb.out; subst hRf; go_wp2_with fail; go_ret; exact ⟨rfl, (HB0.out.trans (H4.out.mono HB0.out.size))⟩
                    | true =>
                      go_wp2_with fail; refine (hW2.out _).mono ?_; rintro e wq ⟨rfl, hwq⟩; subst hwq; cases c3 with
                      | false =>
                        have hRf := hno.out hcb.out; subst hRf; go_wp2_with fail; go_ret; exact ⟨rfl, (HB0.out.trans (H4.out.mono HB0.out.size))⟩
                      | true =>
                        go_wp2_with fail; refine (hW3.out _).mono ?_; rintro e wq ⟨rfl, hwq⟩; subst hwq; cases c4 with
                        | false =>
                          have hRf := hno.out hcb.out; subst hRf; go_wp2_with fail; go_ret; exact ⟨rfl, (HB0.out.trans (H4.out.mono HB0.out.size))⟩
                        | true =>
                          have HS := hide (hstep.out hcb.out); go_wp2_with fail
                          go_roundw
                          case rel => exact ⟨kC + 1, by omega, by go_num, hb24, HS⟩
                          case measure => simp [intOf]; omega
                · have HEC := hide (Pp.all_end HCC.out (by rw [<- HN2.out]; omega))
                  have hRt := HIF.out.2 ⟨trivial, by omega, HEA.out, trivial, by omega, HEB.out, by omega, HEC.out, trivial, HAB.out⟩
                  subst hRt; go_wp2_with fail; go_ret; exact ⟨rfl, (HB0.out.trans (HD.out.mono HB0.out.size))⟩
       | true =>
         by_cases e5 : 0 < lo + (n1 : Int) + (n2 : Int)
         ·
          have hRf := Sh.no_of HIF.out (fun h => by
           have h5 := h.2.2.2.2.2.2.2.2.2 (by first | exact rfl | trivial)
           have h6 : n1 = 0 := by rw [HN1.out, h5.2.1]; rfl
           have h7 : n2 = 0 := by rw [HN2.out, h5.2.2]; rfl
           omega)
          subst hRf; go_wp2_with fail; go_ret; exact ⟨rfl, (HB0.out.trans (H2.out.mono HB0.out.size))⟩
         have HL1 := hide (List.length_eq_zero_iff.1 (HN1.out.symm.trans (by omega)))
         have HL2 := hide (List.length_eq_zero_iff.1 (HN2.out.symm.trans (by omega)))
         have HL3 : Hid (lo = 0) := hide (by omega)
         have HAB : Hid (true = true -> lo = 0 /\ co = [] /\ ca = []) := hide (fun _ => ⟨HL3.out, HL1.out, HL2.out⟩); go_wp2_with fail; clear f2 f3 f6 f7 f8
         go_loopw [3] (fun i wr => ∃ k : Nat, k <= n3 /\ i = .int .i64 k /\ Below w2.heap.size w2 wr /\ Hid (∀ t ∈ ps.take k, Pp.typeB t = true)) (fun i _ => n3 - (intOf i).toNat)
         case atStart => exact ⟨0, Nat.zero_le _, rfl, Below.refl _ _, hide (by simp)⟩
         case round =>
          obtain ⟨kA, hkA, rfl, hbA, HAA⟩ := hrel; have HA := hide (H2.out.trans (hbA.mono H2.out.size)); have g3 : wr.cell? ⟨bm, 3, none⟩ = some (.slice pa n3 pc) := HX.out wr HA.out 3; by_cases hltA : kA < n3
          · obtain ⟨y, hy⟩ : ∃ y, ps[kA]? = some y := ⟨ps[kA]'(by rw [<- HN3.out]; exact hltA), List.getElem?_eq_getElem _⟩
            obtain ⟨gA, oA, rfl, ys, hys, hcell⟩ := Sh.row_at2 HP.out hy; have HY := hide hy; have hG := hide (hcell wr (HB0.out.trans (HA.out.mono HB0.out.size))); obtain rfl : ys = _ := hys.1; have z0 := hG.out 0 _ rfl; have z1 := hG.out 1 _ rfl; rw [Nat.add_zero] at z0; have hTy := hide (fun w' => TypeText_any y hys.2 w')
            have HTy : Hid ((⟨(Pp.typeT y).toArray⟩ : ByteArray).toList.isEmpty = !Pp.typeB y) := hide (by
             cases hb : Pp.typeB y with
             | false => rw [Sh.typeT_no hb, ByteArray.toList_eq]; rfl
             | true => exact sh_nonempty _ (Sh.typeT_ne hb))
            have hstep : Hid (Pp.typeB y = true -> ∀ t ∈ ps.take (kA + 1), Pp.typeB t = true) := hide (fun h => Pp.all_take HAA.out HY.out h); have hno : Hid (Pp.typeB y = false -> R = false) := hide (fun hb => Sh.no_of HIF.out (fun h => by have := h.2.2.1 y (List.mem_of_getElem? HY.out); rw [hb] at this; cases this))
            generalize (⟨(Pp.typeT y).toArray⟩ : ByteArray) = TY at *
            generalize (⟨y.name.toArray⟩ : ByteArray) = SY at *
            generalize y.kind = ky at *
            generalize Pp.typeB y = by_ at *
            clear hcell hys hy hG HY; have hltA' : (kA : Int) < (n3 : Int) := by omega
            go_wp2_with fail; refine (hTy.out _).mono ?_; rintro e w4 ⟨rfl, hb4⟩; have hb24 := hbA.trans (hb4.mono hbA.size); have H4 := hide (HA.out.trans (hb4.mono HA.out.size)); clear hb4 hTy z0 z1 g3; cases by_ with
            | false =>
              have hTe2 : TY.toList.isEmpty = true := HTy.out; have hRf := hno.out (by first | exact rfl | trivial)
              subst hRf; go_wp2_with fail; go_ret; exact ⟨rfl, (HB0.out.trans (H4.out.mono HB0.out.size))⟩
            | true =>
              have hTe2 : TY.toList.isEmpty = false := HTy.out; have HS := hide (hstep.out (by first | exact rfl | trivial))
              go_wp2_with fail
              go_roundw
              case rel => exact ⟨kA + 1, by omega, by go_num, hb24, HS⟩
              case measure => simp [intOf]; omega
          · have HEA := hide (Pp.all_end HAA.out (by rw [<- HN3.out]; omega))
            clear HAA; obtain ⟨wA, rfl⟩ : ∃ wA : World, wA = wr := ⟨_, rfl⟩; go_wp2_with fail; clear g3 hkA hltA hbA
            go_loopw [4] (fun i wr => ∃ k : Nat, k <= n1 /\ i = .int .i64 k /\ Below wA.heap.size wA wr /\ Hid (∀ t ∈ co.take k, Pp.insB t = true)) (fun i _ => n1 - (intOf i).toNat)
            case atStart => exact ⟨0, Nat.zero_le _, rfl, Below.refl _ _, hide (by simp)⟩
            case round =>
             obtain ⟨kB, hkB, rfl, hbB, HBB⟩ := hrel; have HB := hide (HA.out.trans (hbB.mono HA.out.size)); have g7 : wr.cell? ⟨bm, 7, none⟩ = some (.slice cq n1 cc) := HX.out wr HB.out 7; by_cases hltB : kB < n1
             · exfalso; omega
             · have HEB := hide (Pp.all_end HBB.out (by rw [<- HN1.out]; omega))
               clear HBB; obtain ⟨wB, rfl⟩ : ∃ wB : World, wB = wr := ⟨_, rfl⟩; go_wp2_with fail; clear g7 hkB hltB hbB
               go_loopw [5] (fun i wr => ∃ k : Nat, k <= n2 /\ i = .int .i64 k /\ Below wB.heap.size wB wr /\ Hid (∀ t ∈ ca.take k, Pp.ctcB t = true)) (fun i _ => n2 - (intOf i).toNat)
               case atStart => exact ⟨0, Nat.zero_le _, rfl, Below.refl _ _, hide (by simp)⟩
               case round =>
                obtain ⟨kC, hkC, rfl, hbC, HCC⟩ := hrel; have HD := hide (HB.out.trans (hbC.mono HB.out.size)); have g8 : wr.cell? ⟨bm, 8, none⟩ = some (.slice kq n2 kc) := HX.out wr HD.out 8; by_cases hltC : kC < n2
                · exfalso; omega
                · have HEC := hide (Pp.all_end HCC.out (by rw [<- HN2.out]; omega))
                  have hRt := HIF.out.2 ⟨trivial, by omega, HEA.out, trivial, by omega, HEB.out, by omega, HEC.out, trivial, HAB.out⟩
                  subst hRt; go_wp2_with fail; go_ret; exact ⟨rfl, (HB0.out.trans (HD.out.mono HB0.out.size))⟩
namespace Sh
theorem clsB_all (c : Pp.XCls) : Pp.clsB c = true ↔ Pp.freshB c.name = true /\ Pp.supB c = true /\ c.ifaces.length <= 4 /\ c.fields.length <= 6 /\ c.methods.length <= 6 /\ (∀ s ∈ c.ifaces, Pp.freshB s = true) /\ (∀ f ∈ c.fields, Pp.fldB f = true) /\ (∀ m ∈ c.methods, Pp.mthB m = true) := by
 unfold Pp.clsB; simp only [Bool.and_eq_true, Pp.eachB_iff]; constructor
 · rintro ⟨h1, h2, ⟨h3, h4⟩, ⟨h5, h6⟩, h7, h8⟩
   exact ⟨h1, h2, h3, h5, h7, h4, h6, h8⟩
 · rintro ⟨h1, h2, h3, h5, h7, h4, h6, h8⟩
   exact ⟨h1, h2, ⟨h3, h4⟩, ⟨h5, h6⟩, h7, h8⟩
theorem progB_all (cs : List Pp.XCls) : Pp.progB cs = true ↔ cs.length <= 10 /\ ∀ c ∈ cs, Pp.clsB c = true := Pp.eachB_iff _ _ _
end Sh
theorem Shown_any (cs : List Pp.XCls) (v : Value) (w : World) (h : ProgX w v cs) :
 Calls Tryz.prog 46 #[.agg #[v]] w fun e w' => e = .returned (.bool (Pp.progB cs)) /\ Below w.heap.size w w' := by
 have HIF := hide (Sh.progB_all cs); obtain ⟨pa, pc, rfl, _⟩ := h.1.len; obtain ⟨len, hlen⟩ : ∃ len, len = cs.length := ⟨_, rfl⟩; have HL := hide hlen; have HX := hide h.1; have hml := h.2; unfold maxLen at hml; rw [<- hlen] at HX HIF hml ⊢; clear h hlen; generalize Pp.progB cs = R at *
 by_cases h10 : 10 < len
 · have h10' : (10 : Int) < (len : Int) := by omega
   have hRf := Sh.no_of HIF.out (fun h => by have := h.1; omega)
   subst hRf; go_enter Tryz.func46, Tryz.ntmps46; go_wp2_with fail; go_ret; exact ⟨rfl, (Below.refl _ _).alloc (Nat.le_refl _) _⟩
 have h10' : ¬ (10 : Int) < (len : Int) := by omega
 have HB0 : Hid (Below w.heap.size w (w.alloc (.cells #[.slice pa len pc] 24))) := hide ((Below.refl _ _).alloc (Nat.le_refl _) _); have HP : Hid (∀ wx, Below (w.alloc (.cells #[.slice pa len pc] 24)).heap.size (w.alloc (.cells #[.slice pa len pc] 24)) wx -> wx.cell? ⟨w.heap.size, 0, none⟩ = some (.slice pa len pc)) := hide fun wx hb => (hb.cell (p := ⟨w.heap.size, 0, none⟩) (by show w.heap.size < _; simp)).trans (cell_box (heap_alloc_new w _) 0)
 go_enter Tryz.func46, Tryz.ntmps46; go_wp2_with fail; generalize w.alloc (.cells #[.slice pa len pc] 24) = w0 at *
 generalize w.heap.size = bp at HP ⊢
 go_loopw [3] (fun i wr => ∃ k : Nat, k <= len /\ i = .int .i64 k /\ Below w0.heap.size w0 wr /\ Hid (∀ y ∈ cs.take k, Pp.clsB y = true)) (fun i _ => len - (intOf i).toNat)
 case atStart => exact ⟨0, Nat.zero_le _, rfl, Below.refl _ _, hide (by simp)⟩
 case round =>
  obtain ⟨kA, hkA, rfl, hbA, HAA⟩ := hrel; have pA := HP.out wr hbA; have HA := hide hbA; have HWA := hide (HB0.out.trans (hbA.mono HB0.out.size)); clear hbA; by_cases hltA : kA < len
  · obtain ⟨x, hx⟩ : ∃ x, cs[kA]? = some x := ⟨cs[kA]'(by rw [<- HL.out]; exact hltA), List.getElem?_eq_getElem _⟩
    obtain ⟨g, o, rfl, ys, hy, hcell⟩ := Sh.row_at2 HX.out hx; have HX2 := hide hx; have hG := hide (hcell wr HWA.out); have HC := hide (Sh.clsB_all x); have hno : Hid (Pp.clsB x = false -> R = false) := hide (fun hb => Sh.no_of HIF.out (fun h => by have := h.2 x (List.mem_of_getElem? HX2.out); rw [hb] at this; cases this))
    have hstep : Hid (Pp.clsB x = true -> ∀ y ∈ cs.take (kA + 1), Pp.clsB y = true) := hide (fun h => Pp.all_take HAA.out HX2.out h); obtain ⟨vi, vf, vm, rfl, x1, x2, x3, x4⟩ := hy; obtain ⟨l1, l2, l3, l4, l5⟩ := x4; obtain ⟨ia, ic, rfl, _⟩ := x1.len; obtain ⟨fa, fc, rfl, _⟩ := x2.len; obtain ⟨ma, mc, rfl, _⟩ := x3.len; have r0 := hG.out 0 _ rfl; have r1 := hG.out 1 _ rfl; have r2 := hG.out 2 _ rfl; have r3 := hG.out 3 _ rfl; have r4 := hG.out 4 _ rfl; have r5 := hG.out 5 _ rfl; rw [Nat.add_zero] at r0; have hF0 := hide (fun w' => refFresh_any x.name l1 w'); have hF2 := hide (fun w' => refFresh_any x.super l2 w')
    have hSu : Hid (Pp.supB x = ((⟨x.super.toArray⟩ : ByteArray).toList.isEmpty || (!x.iface && Pp.freshB x.super))) := hide (by
     unfold Pp.supB
     congr 1
     rw [ByteArray.toList_eq]; cases x.super <;> rfl)
    obtain ⟨n1, hn1⟩ : ∃ n, n = x.ifaces.length := ⟨_, rfl⟩; obtain ⟨n2, hn2⟩ : ∃ n, n = x.fields.length := ⟨_, rfl⟩; obtain ⟨n3, hn3⟩ : ∃ n, n = x.methods.length := ⟨_, rfl⟩; have HN1 := hide hn1; have HN2 := hide hn2; have HN3 := hide hn3; rw [<- hn1] at r3 x1 l3; rw [<- hn2] at r4 x2 l4; rw [<- hn3] at r5 x3 l5; rw [<- hn1, <- hn2, <- hn3] at HC; unfold maxLen at l3 l4 l5; have HI := hide x1; have HF := hide x2; have HM := hide x3; generalize Pp.clsB x = RC at *
    generalize Pp.freshB x.name = b1 at *
    generalize Pp.supB x = b2 at *
    generalize Pp.freshB x.super = b3 at *
    generalize (⟨x.name.toArray⟩ : ByteArray) = S0 at *
    generalize (⟨x.super.toArray⟩ : ByteArray) = S2 at *
    generalize x.iface = bI at *
    clear hcell x1 x2 x3 hG hn1 hn2 hn3 hx l1 l2 HX; have hltA' : (kA : Int) < (len : Int) := by omega
    have H0C := hide (HA.out.alloc HA.out.size (.cells #[.string S0, .bool bI, .string S2, .slice ia n1 ic, .slice fa n2 fc, .slice ma n3 mc] 42)); have HXC : Hid (∀ wx, Below (wr.alloc (.cells #[.string S0, .bool bI, .string S2, .slice ia n1 ic, .slice fa n2 fc, .slice ma n3 mc] 42)).heap.size (wr.alloc (.cells #[.string S0, .bool bI, .string S2, .slice ia n1 ic, .slice fa n2 fc, .slice ma n3 mc] 42)) wx -> ∀ j, wx.cell? ⟨wr.heap.size, j, none⟩ = #[Value.string S0, .bool bI, .string S2, .slice ia n1 ic, .slice fa n2 fc, .slice ma n3 mc][j]?) := hide fun wx hb j => (hb.cell (p := ⟨wr.heap.size, j, none⟩) (by show wr.heap.size < _; simp)).trans (cell_box (heap_alloc_new wr _) j)
    go_wp2_with fail; clear r0 r1 r2 r3 r4 r5 pA; generalize wr.alloc (.cells #[.string S0, .bool bI, .string S2, .slice ia n1 ic, .slice fa n2 fc, .slice ma n3 mc] 42) = wc at *
    generalize wr.heap.size = bc at HXC ⊢; refine (hF0.out _).mono ?_; rintro e w1 ⟨rfl, hb1⟩; have H1 := hide hb1; clear hb1 hF0; cases b1 with
    | false =>
      have hRf := hno.out (Sh.no_of HC.out (fun h => by have := h.1; cases this))
      subst hRf; go_wp2_with fail; go_ret; exact ⟨rfl, (HB0.out.trans ((H0C.out.trans (H1.out.mono H0C.out.size)).mono HB0.out.size))⟩
    | true =>
      have f1 : w1.cell? ⟨bc, 1, none⟩ = some (.bool bI) := HXC.out w1 H1.out 1; have f2 : w1.cell? ⟨bc, 2, none⟩ = some (.string S2) := HXC.out w1 H1.out 2; have f3 : w1.cell? ⟨bc, 3, none⟩ = some (.slice ia n1 ic) := HXC.out w1 H1.out 3; have f4 : w1.cell? ⟨bc, 4, none⟩ = some (.slice fa n2 fc) := HXC.out w1 H1.out 4; have f5 : w1.cell? ⟨bc, 5, none⟩ = some (.slice ma n3 mc) := HXC.out w1 H1.out 5; cases hE : S2.toList.isEmpty with
      | true =>
        have hb2 : b2 = true := by rw [hSu.out, hE]; rfl
        have HB2 := hide hb2; clear hb2; by_cases e1 : 4 < n1
        · have e1' : (4 : Int) < (n1 : Int) := by omega
          have hRf := hno.out (Sh.no_of HC.out (fun h => by have := h.2.2.1; omega))
          subst hRf; go_wp2_with fail; go_ret; exact ⟨rfl, (HB0.out.trans ((H0C.out.trans (H1.out.mono H0C.out.size)).mono HB0.out.size))⟩
        have e1' : ¬ (4 : Int) < (n1 : Int) := by omega
        by_cases e2 : 6 < n2
        · have e2' : (6 : Int) < (n2 : Int) := by omega
          have hRf := hno.out (Sh.no_of HC.out (fun h => by have := h.2.2.2.1; omega))
          subst hRf; go_wp2_with fail; go_ret; exact ⟨rfl, (HB0.out.trans ((H0C.out.trans (H1.out.mono H0C.out.size)).mono HB0.out.size))⟩
        have e2' : ¬ (6 : Int) < (n2 : Int) := by omega
        by_cases e3 : 6 < n3
        · have e3' : (6 : Int) < (n3 : Int) := by omega
          have hRf := hno.out (Sh.no_of HC.out (fun h => by have := h.2.2.2.2.1; omega))
          subst hRf; go_wp2_with fail; go_ret; exact ⟨rfl, (HB0.out.trans ((H0C.out.trans (H1.out.mono H0C.out.size)).mono HB0.out.size))⟩
        have e3' : ¬ (6 : Int) < (n3 : Int) := by omega
        go_wp2_with fail; clear f1 f2 f3 f4 f5
        go_loopw [5] (fun i wr => ∃ k : Nat, k <= n1 /\ i = .int .i64 k /\ Below w1.heap.size w1 wr /\ Hid (∀ t ∈ x.ifaces.take k, Pp.freshB t = true)) (fun i _ => n1 - (intOf i).toNat)
        case atStart => exact ⟨0, Nat.zero_le _, rfl, Below.refl _ _, hide (by simp)⟩
        case round =>
         obtain ⟨kB, hkB, rfl, hbB, HBB⟩ := hrel; have HB := hide (H1.out.trans (hbB.mono H1.out.size)); have g3 : wr.cell? ⟨bc, 3, none⟩ = some (.slice ia n1 ic) := HXC.out wr HB.out 3; by_cases hltB : kB < n1
         · obtain ⟨y, hy⟩ : ∃ y, x.ifaces[kB]? = some y := ⟨x.ifaces[kB]'(by rw [<- HN1.out]; exact hltB), List.getElem?_eq_getElem _⟩
           obtain ⟨gB, oB, rfl, ys, hys, hcell⟩ := Sh.row_at2 HI.out hy; have HY := hide hy; have hG := hide (hcell wr (HB0.out.trans ((H0C.out.trans (HB.out.mono H0C.out.size)).mono HB0.out.size))); obtain rfl : ys = _ := hys.1; have z0 := hG.out 0 _ rfl; rw [Nat.add_zero, Nat.mul_one] at z0; have hFy := hide (fun w' => refFresh_any y hys.2 w'); have hst : Hid (Pp.freshB y = true -> ∀ t ∈ x.ifaces.take (kB + 1), Pp.freshB t = true) := hide (fun h => Pp.all_take HBB.out HY.out h); have hnn : Hid (Pp.freshB y = false -> R = false) := hide (fun hb => hno.out (Sh.no_of HC.out (fun h => by have := h.2.2.2.2.2.1 y (List.mem_of_getElem? HY.out); rw [hb] at this; cases this)))
           generalize (⟨y.toArray⟩ : ByteArray) = SY at *
           generalize Pp.freshB y = by_ at *
           clear hcell hys hy hG HY; have hltB' : (kB : Int) < (n1 : Int) := by omega
           go_wp2_with fail; refine (hFy.out _).mono ?_; rintro e w4 ⟨rfl, hb4⟩; have hb24 := hbB.trans (hb4.mono hbB.size); have H4 := hide (HB.out.trans (hb4.mono HB.out.size)); clear hb4 hFy z0 g3; cases by_ with
           | false =>
             have hRf := hnn.out (by first | exact rfl | trivial)
             subst hRf; go_wp2_with fail; go_ret; exact ⟨rfl, (HB0.out.trans ((H0C.out.trans (H4.out.mono H0C.out.size)).mono HB0.out.size))⟩
           | true =>
             have HS := hide (hst.out (by first | exact rfl | trivial))
             go_wp2_with fail
             go_roundw
             case rel => exact ⟨kB + 1, by omega, by go_num, hb24, HS⟩
             case measure => simp [intOf]; omega
         · have HEB := hide (Pp.all_end HBB.out (by rw [<- HN1.out]; omega))
           clear HBB; obtain ⟨wB, rfl⟩ : ∃ wB : World, wB = wr := ⟨_, rfl⟩; go_wp2_with fail; clear g3 hkB hltB hbB
           go_loopw [6] (fun i wr => ∃ k : Nat, k <= n2 /\ i = .int .i64 k /\ Below wB.heap.size wB wr /\ Hid (∀ t ∈ x.fields.take k, Pp.fldB t = true)) (fun i _ => n2 - (intOf i).toNat)
           case atStart => exact ⟨0, Nat.zero_le _, rfl, Below.refl _ _, hide (by simp)⟩
           case round =>
            obtain ⟨kC, hkC, rfl, hbC, HCC⟩ := hrel; have HD := hide (HB.out.trans (hbC.mono HB.out.size)); have g4 : wr.cell? ⟨bc, 4, none⟩ = some (.slice fa n2 fc) := HXC.out wr HD.out 4; by_cases hltC : kC < n2
            · obtain ⟨y, hy⟩ : ∃ y, x.fields[kC]? = some y := ⟨x.fields[kC]'(by rw [<- HN2.out]; exact hltC), List.getElem?_eq_getElem _⟩
              obtain ⟨gC, oC, rfl, ys, hys, hcell⟩ := Sh.row_at2 HF.out hy; have HY := hide hy; have hbF := (HB0.out.trans ((H0C.out.trans (HD.out.mono H0C.out.size)).mono HB0.out.size)); have hG := hide (fun wx (hb : Below wr.heap.size wr wx) => hcell wx (hbF.trans (hb.mono hbF.size))); clear hbF; obtain rfl : ys = _ := hys.1; have z0 := hG.out wr (Below.refl _ _) 0 _ rfl; rw [Nat.add_zero] at z0; have hFy := hide (fun w' => refFresh_any y.name hys.2.1 w'); have hTy := hide (fun w' => TypeText_any y.ty hys.2.2 w')
              have HTy : Hid ((⟨(Pp.typeT y.ty).toArray⟩ : ByteArray).toList.isEmpty = !Pp.typeB y.ty) := hide (by
               cases hb : Pp.typeB y.ty with
               | false => rw [Sh.typeT_no hb, ByteArray.toList_eq]; rfl
               | true => exact sh_nonempty _ (Sh.typeT_ne hb))
              have hfb : Hid (Pp.fldB y = (Pp.freshB y.name && Pp.typeB y.ty)) := rfl; have hst : Hid (Pp.fldB y = true -> ∀ t ∈ x.fields.take (kC + 1), Pp.fldB t = true) := hide (fun h => Pp.all_take HCC.out HY.out h); have hnn : Hid (Pp.fldB y = false -> R = false) := hide (fun hb => hno.out (Sh.no_of HC.out (fun h => by have := h.2.2.2.2.2.2.1 y (List.mem_of_getElem? HY.out); rw [hb] at this; cases this)))
              have hG2 : Hid (∀ wx, Below wr.heap.size wr wx -> wx.cell? ⟨gC, oC + kC * 4 + 1, none⟩ = some (.int .i64 y.ty.kind) /\ wx.cell? ⟨gC, oC + kC * 4 + 2, none⟩ = some (.string ⟨y.ty.name.toArray⟩)) := hide fun wx hb => ⟨hG.out wx hb 1 _ rfl, hG.out wx hb 2 _ rfl⟩; generalize (⟨(Pp.typeT y.ty).toArray⟩ : ByteArray) = TY at *
              generalize (⟨y.name.toArray⟩ : ByteArray) = SY at *
              generalize (⟨y.ty.name.toArray⟩ : ByteArray) = SZ at *
              generalize y.ty.kind = ky at *
              generalize Pp.fldB y = by_ at *
              generalize Pp.freshB y.name = c1 at *
              generalize Pp.typeB y.ty = c2 at *
              clear hcell hys hy hG HY; have hltC' : (kC : Int) < (n2 : Int) := by omega
              go_wp2_with fail; refine (hFy.out _).mono ?_; rintro e w4 ⟨rfl, hb4⟩; have hb24 := hbC.trans (hb4.mono hbC.size); have H4 := hide (HD.out.trans (hb4.mono HD.out.size)); obtain ⟨z1, z2⟩ := hG2.out w4 hb4; have g4' : w4.cell? ⟨bc, 4, none⟩ = some (.slice (some ⟨gC, oC, none⟩) n2 fc) := HXC.out w4 H4.out 4; clear hb4 hFy z0 g4 hG2; cases c1 with
              | false =>
                have hRf := hnn.out hfb.out; subst hRf; go_wp2_with fail; go_ret; exact ⟨rfl, (HB0.out.trans ((H0C.out.trans (H4.out.mono H0C.out.size)).mono HB0.out.size))⟩
              | true =>
                go_wp2_with fail; refine (hTy.out _).mono ?_; rintro e w5 ⟨rfl, hb5⟩; have hb25 := hb24.trans (hb5.mono hb24.size); have H5 := hide (H4.out.trans (hb5.mono H4.out.size)); clear hb5 hTy z1 z2 g4'; cases c2 with
                | false =>
                  have hTe2 : TY.toList.isEmpty = true := HTy.out; have hRf := hnn.out hfb.out; subst hRf; go_wp2_with fail; go_ret; exact ⟨rfl, (HB0.out.trans ((H0C.out.trans (H5.out.mono H0C.out.size)).mono HB0.out.size))⟩
                | true =>
                  have hTe2 : TY.toList.isEmpty = false := HTy.out; have HS := hide (hst.out hfb.out); go_wp2_with fail
                  go_roundw
                  case rel => exact ⟨kC + 1, by omega, by go_num, hb25, HS⟩
                  case measure => simp [intOf]; omega
            · have HEC := hide (Pp.all_end HCC.out (by rw [<- HN2.out]; omega))
              clear HCC; obtain ⟨wC, rfl⟩ : ∃ wC : World, wC = wr := ⟨_, rfl⟩; go_wp2_with fail; clear g4 hkC hltC hbC
              go_loopw [7] (fun i wr => ∃ k : Nat, k <= n3 /\ i = .int .i64 k /\ Below wC.heap.size wC wr /\ Hid (∀ t ∈ x.methods.take k, Pp.mthB t = true)) (fun i _ => n3 - (intOf i).toNat)
              case atStart => exact ⟨0, Nat.zero_le _, rfl, Below.refl _ _, hide (by simp)⟩
              case round =>
               obtain ⟨kD, hkD, rfl, hbD, HDD⟩ := hrel; have HE := hide (HD.out.trans (hbD.mono HD.out.size)); have g5 : wr.cell? ⟨bc, 5, none⟩ = some (.slice ma n3 mc) := HXC.out wr HE.out 5; by_cases hltD : kD < n3
               · obtain ⟨y, hy⟩ : ∃ y, x.methods[kD]? = some y := ⟨x.methods[kD]'(by rw [<- HN3.out]; exact hltD), List.getElem?_eq_getElem _⟩
                 obtain ⟨gD, oD, rfl, ys, hys, hcell⟩ := Sh.row_at2 HM.out hy; have HY := hide hy; have hG := hide (hcell wr (HB0.out.trans ((H0C.out.trans (HE.out.mono H0C.out.size)).mono HB0.out.size))); have hMy := hide (showMethod_any y ys wr (hys.on (HB0.out.trans ((H0C.out.trans (HE.out.mono H0C.out.size)).mono HB0.out.size)))); have hst : Hid (Pp.mthB y = true -> ∀ t ∈ x.methods.take (kD + 1), Pp.mthB t = true) := hide (fun h => Pp.all_take HDD.out HY.out h); have hnn : Hid (Pp.mthB y = false -> R = false) := hide (fun hb => hno.out (Sh.no_of HC.out (fun h => by have := h.2.2.2.2.2.2.2 y (List.mem_of_getElem? HY.out); rw [hb] at this; cases this)))
                 obtain ⟨vp, vc, vk, rfl, x1, x2, x3, x4⟩ := hys; obtain ⟨za, zb, rfl, _⟩ := x1.len; obtain ⟨zc, zd, rfl, _⟩ := x2.len; obtain ⟨ze, zf, rfl, _⟩ := x3.len; clear x1 x2 x3 x4; have z0 := hG.out 0 _ rfl; have z1 := hG.out 1 _ rfl; have z2 := hG.out 2 _ rfl; have z3 := hG.out 3 _ rfl; have z4 := hG.out 4 _ rfl; have z5 := hG.out 5 _ rfl; have z6 := hG.out 6 _ rfl; have z7 := hG.out 7 _ rfl; have z8 := hG.out 8 _ rfl; rw [Nat.add_zero] at z0; simp only [mthXL] at hMy; generalize (⟨y.name.toArray⟩ : ByteArray) = y0 at *
                 generalize y.stat = y1 at *
                 generalize y.abst = y2 at *
                 generalize y.ret.kind = y3 at *
                 generalize (⟨y.ret.name.toArray⟩ : ByteArray) = y4 at *
                 generalize y.locals = y5 at *
                 generalize y.params.length = k1 at *
                 generalize y.code.length = k2 at *
                 generalize y.catches.length = k3 at *
                 generalize Pp.mthB y = by_ at *
                 clear hcell hy hG HY; have hltD' : (kD : Int) < (n3 : Int) := by omega
                 go_wp2_with fail; refine hMy.out.mono ?_; rintro e w4 ⟨rfl, hb4⟩; have hb24 := hbD.trans (hb4.mono hbD.size); have H4 := hide (HE.out.trans (hb4.mono HE.out.size)); clear hb4 hMy z0 z1 z2 z3 z4 z5 z6 z7 z8 g5; cases by_ with
                 | false =>
                   have hRf := hnn.out (by first | exact rfl | trivial)
                   subst hRf; go_wp2_with fail; go_ret; exact ⟨rfl, (HB0.out.trans ((H0C.out.trans (H4.out.mono H0C.out.size)).mono HB0.out.size))⟩
                 | true =>
                   have HS := hide (hst.out (by first | exact rfl | trivial))
                   go_wp2_with fail
                   go_roundw
                   case rel => exact ⟨kD + 1, by omega, by go_num, hb24, HS⟩
                   case measure => simp [intOf]; omega
               · have HED := hide (Pp.all_end HDD.out (by rw [<- HN3.out]; omega))
                 have hRt := HC.out.2 ⟨by first | exact rfl | trivial, HB2.out, by omega, by omega, by omega, HEB.out, HEC.out, HED.out⟩
                 have HS := hide (hstep.out hRt); have HEF := hide (H0C.out.trans (HE.out.mono H0C.out.size)); go_wp2_with fail
                 go_roundw
                 case rel => exact ⟨kA + 1, by omega, by go_num, HEF.out, HS⟩
                 case measure => simp [intOf]; omega
      | false =>
        cases bI with
        | true =>
          have hb2 : b2 = false := by rw [hSu.out, hE]; rfl
          have hRf := hno.out (Sh.no_of HC.out (fun h => by have := h.2.1; rw [hb2] at this; cases this))
          subst hRf; go_wp2_with fail; go_ret; exact ⟨rfl, (HB0.out.trans ((H0C.out.trans (H1.out.mono H0C.out.size)).mono HB0.out.size))⟩
        | false =>
          go_wp2_with fail; refine (hF2.out _).mono ?_; rintro e w2 ⟨rfl, hb2⟩; have H2 := hide (H1.out.trans (hb2.mono H1.out.size)); clear hb2 hF2 f1 f2 f3 f4 f5; cases b3 with
          | false =>
            have hb2 : b2 = false := by rw [hSu.out, hE]; rfl
            have hRf := hno.out (Sh.no_of HC.out (fun h => by have := h.2.1; rw [hb2] at this; cases this))
            subst hRf; go_wp2_with fail; go_ret; exact ⟨rfl, (HB0.out.trans ((H0C.out.trans (H2.out.mono H0C.out.size)).mono HB0.out.size))⟩
          | true =>
            have hb2 : b2 = true := by rw [hSu.out, hE]; rfl
            have HB2 := hide hb2; clear hb2; have f3 : w2.cell? ⟨bc, 3, none⟩ = some (.slice ia n1 ic) := HXC.out w2 H2.out 3; have f4 : w2.cell? ⟨bc, 4, none⟩ = some (.slice fa n2 fc) := HXC.out w2 H2.out 4; have f5 : w2.cell? ⟨bc, 5, none⟩ = some (.slice ma n3 mc) := HXC.out w2 H2.out 5; by_cases e1 : 4 < n1
            · have e1' : (4 : Int) < (n1 : Int) := by omega
              have hRf := hno.out (Sh.no_of HC.out (fun h => by have := h.2.2.1; omega))
              subst hRf; go_wp2_with fail; go_ret; exact ⟨rfl, (HB0.out.trans ((H0C.out.trans (H2.out.mono H0C.out.size)).mono HB0.out.size))⟩
            have e1' : ¬ (4 : Int) < (n1 : Int) := by omega
            by_cases e2 : 6 < n2
            · have e2' : (6 : Int) < (n2 : Int) := by omega
              have hRf := hno.out (Sh.no_of HC.out (fun h => by have := h.2.2.2.1; omega))
              subst hRf; go_wp2_with fail; go_ret; exact ⟨rfl, (HB0.out.trans ((H0C.out.trans (H2.out.mono H0C.out.size)).mono HB0.out.size))⟩
            have e2' : ¬ (6 : Int) < (n2 : Int) := by omega
            by_cases e3 : 6 < n3
            · have e3' : (6 : Int) < (n3 : Int) := by omega
              have hRf := hno.out (Sh.no_of HC.out (fun h => by have := h.2.2.2.2.1; omega))
              subst hRf; go_wp2_with fail; go_ret; exact ⟨rfl, (HB0.out.trans ((H0C.out.trans (H2.out.mono H0C.out.size)).mono HB0.out.size))⟩
            have e3' : ¬ (6 : Int) < (n3 : Int) := by omega
            go_wp2_with fail; clear f3 f4 f5
            go_loopw [5] (fun i wr => ∃ k : Nat, k <= n1 /\ i = .int .i64 k /\ Below w2.heap.size w2 wr /\ Hid (∀ t ∈ x.ifaces.take k, Pp.freshB t = true)) (fun i _ => n1 - (intOf i).toNat)
            case atStart => exact ⟨0, Nat.zero_le _, rfl, Below.refl _ _, hide (by simp)⟩
            case round =>
             obtain ⟨kB, hkB, rfl, hbB, HBB⟩ := hrel; have HB := hide (H2.out.trans (hbB.mono H2.out.size)); have g3 : wr.cell? ⟨bc, 3, none⟩ = some (.slice ia n1 ic) := HXC.out wr HB.out 3; by_cases hltB : kB < n1
             · obtain ⟨y, hy⟩ : ∃ y, x.ifaces[kB]? = some y := ⟨x.ifaces[kB]'(by rw [<- HN1.out]; exact hltB), List.getElem?_eq_getElem _⟩
               obtain ⟨gB, oB, rfl, ys, hys, hcell⟩ := Sh.row_at2 HI.out hy; have HY := hide hy; have hG := hide (hcell wr (HB0.out.trans ((H0C.out.trans (HB.out.mono H0C.out.size)).mono HB0.out.size))); obtain rfl : ys = _ := hys.1; have z0 := hG.out 0 _ rfl; rw [Nat.add_zero, Nat.mul_one] at z0; have hFy := hide (fun w' => refFresh_any y hys.2 w'); have hst : Hid (Pp.freshB y = true -> ∀ t ∈ x.ifaces.take (kB + 1), Pp.freshB t = true) := hide (fun h => Pp.all_take HBB.out HY.out h); have hnn : Hid (Pp.freshB y = false -> R = false) := hide (fun hb => hno.out (Sh.no_of HC.out (fun h => by have := h.2.2.2.2.2.1 y (List.mem_of_getElem? HY.out); rw [hb] at this; cases this)))
               generalize (⟨y.toArray⟩ : ByteArray) = SY at *
               generalize Pp.freshB y = by_ at *
               clear hcell hys hy hG HY; have hltB' : (kB : Int) < (n1 : Int) := by omega
               go_wp2_with fail; refine (hFy.out _).mono ?_; rintro e w4 ⟨rfl, hb4⟩; have hb24 := hbB.trans (hb4.mono hbB.size); have H4 := hide (HB.out.trans (hb4.mono HB.out.size)); clear hb4 hFy z0 g3; cases by_ with
               | false =>
                 have hRf := hnn.out (by first | exact rfl | trivial)
                 subst hRf; go_wp2_with fail; go_ret; exact ⟨rfl, (HB0.out.trans ((H0C.out.trans (H4.out.mono H0C.out.size)).mono HB0.out.size))⟩
               | true =>
                 have HS := hide (hst.out (by first | exact rfl | trivial))
                 go_wp2_with fail
                 go_roundw
                 case rel => exact ⟨kB + 1, by omega, by go_num, hb24, HS⟩
                 case measure => simp [intOf]; omega
             · have HEB := hide (Pp.all_end HBB.out (by rw [<- HN1.out]; omega))
               clear HBB; obtain ⟨wB, rfl⟩ : ∃ wB : World, wB = wr := ⟨_, rfl⟩; go_wp2_with fail; clear g3 hkB hltB hbB
               go_loopw [6] (fun i wr => ∃ k : Nat, k <= n2 /\ i = .int .i64 k /\ Below wB.heap.size wB wr /\ Hid (∀ t ∈ x.fields.take k, Pp.fldB t = true)) (fun i _ => n2 - (intOf i).toNat)
               case atStart => exact ⟨0, Nat.zero_le _, rfl, Below.refl _ _, hide (by simp)⟩
               case round =>
                obtain ⟨kC, hkC, rfl, hbC, HCC⟩ := hrel; have HD := hide (HB.out.trans (hbC.mono HB.out.size)); have g4 : wr.cell? ⟨bc, 4, none⟩ = some (.slice fa n2 fc) := HXC.out wr HD.out 4; by_cases hltC : kC < n2
                · obtain ⟨y, hy⟩ : ∃ y, x.fields[kC]? = some y := ⟨x.fields[kC]'(by rw [<- HN2.out]; exact hltC), List.getElem?_eq_getElem _⟩
                  obtain ⟨gC, oC, rfl, ys, hys, hcell⟩ := Sh.row_at2 HF.out hy; have HY := hide hy; have hbF := (HB0.out.trans ((H0C.out.trans (HD.out.mono H0C.out.size)).mono HB0.out.size)); have hG := hide (fun wx (hb : Below wr.heap.size wr wx) => hcell wx (hbF.trans (hb.mono hbF.size))); clear hbF; obtain rfl : ys = _ := hys.1; have z0 := hG.out wr (Below.refl _ _) 0 _ rfl; rw [Nat.add_zero] at z0; have hFy := hide (fun w' => refFresh_any y.name hys.2.1 w'); have hTy := hide (fun w' => TypeText_any y.ty hys.2.2 w')
                  have HTy : Hid ((⟨(Pp.typeT y.ty).toArray⟩ : ByteArray).toList.isEmpty = !Pp.typeB y.ty) := hide (by
                   cases hb : Pp.typeB y.ty with
                   | false => rw [Sh.typeT_no hb, ByteArray.toList_eq]; rfl
                   | true => exact sh_nonempty _ (Sh.typeT_ne hb))
                  have hfb : Hid (Pp.fldB y = (Pp.freshB y.name && Pp.typeB y.ty)) := rfl; have hst : Hid (Pp.fldB y = true -> ∀ t ∈ x.fields.take (kC + 1), Pp.fldB t = true) := hide (fun h => Pp.all_take HCC.out HY.out h); have hnn : Hid (Pp.fldB y = false -> R = false) := hide (fun hb => hno.out (Sh.no_of HC.out (fun h => by have := h.2.2.2.2.2.2.1 y (List.mem_of_getElem? HY.out); rw [hb] at this; cases this)))
                  have hG2 : Hid (∀ wx, Below wr.heap.size wr wx -> wx.cell? ⟨gC, oC + kC * 4 + 1, none⟩ = some (.int .i64 y.ty.kind) /\ wx.cell? ⟨gC, oC + kC * 4 + 2, none⟩ = some (.string ⟨y.ty.name.toArray⟩)) := hide fun wx hb => ⟨hG.out wx hb 1 _ rfl, hG.out wx hb 2 _ rfl⟩; generalize (⟨(Pp.typeT y.ty).toArray⟩ : ByteArray) = TY at *
                  generalize (⟨y.name.toArray⟩ : ByteArray) = SY at *
                  generalize (⟨y.ty.name.toArray⟩ : ByteArray) = SZ at *
                  generalize y.ty.kind = ky at *
                  generalize Pp.fldB y = by_ at *
                  generalize Pp.freshB y.name = c1 at *
                  generalize Pp.typeB y.ty = c2 at *
                  clear hcell hys hy hG HY; have hltC' : (kC : Int) < (n2 : Int) := by omega
                  go_wp2_with fail; refine (hFy.out _).mono ?_; rintro e w4 ⟨rfl, hb4⟩; have hb24 := hbC.trans (hb4.mono hbC.size); have H4 := hide (HD.out.trans (hb4.mono HD.out.size)); obtain ⟨z1, z2⟩ := hG2.out w4 hb4; have g4' : w4.cell? ⟨bc, 4, none⟩ = some (.slice (some ⟨gC, oC, none⟩) n2 fc) := HXC.out w4 H4.out 4; clear hb4 hFy z0 g4 hG2; cases c1 with
                  | false =>
                    have hRf := hnn.out hfb.out; subst hRf; go_wp2_with fail; go_ret; exact ⟨rfl, (HB0.out.trans ((H0C.out.trans (H4.out.mono H0C.out.size)).mono HB0.out.size))⟩
                  | true =>
                    go_wp2_with fail; refine (hTy.out _).mono ?_; rintro e w5 ⟨rfl, hb5⟩; have hb25 := hb24.trans (hb5.mono hb24.size); have H5 := hide (H4.out.trans (hb5.mono H4.out.size)); clear hb5 hTy z1 z2 g4'; cases c2 with
                    | false =>
                      have hTe2 : TY.toList.isEmpty = true := HTy.out; have hRf := hnn.out hfb.out; subst hRf; go_wp2_with fail; go_ret; exact ⟨rfl, (HB0.out.trans ((H0C.out.trans (H5.out.mono H0C.out.size)).mono HB0.out.size))⟩
                    | true =>
                      have hTe2 : TY.toList.isEmpty = false := HTy.out; have HS := hide (hst.out hfb.out); go_wp2_with fail
                      go_roundw
                      case rel => exact ⟨kC + 1, by omega, by go_num, hb25, HS⟩
                      case measure => simp [intOf]; omega
                · have HEC := hide (Pp.all_end HCC.out (by rw [<- HN2.out]; omega))
                  clear HCC; obtain ⟨wC, rfl⟩ : ∃ wC : World, wC = wr := ⟨_, rfl⟩; go_wp2_with fail; clear g4 hkC hltC hbC
                  go_loopw [7] (fun i wr => ∃ k : Nat, k <= n3 /\ i = .int .i64 k /\ Below wC.heap.size wC wr /\ Hid (∀ t ∈ x.methods.take k, Pp.mthB t = true)) (fun i _ => n3 - (intOf i).toNat)
                  case atStart => exact ⟨0, Nat.zero_le _, rfl, Below.refl _ _, hide (by simp)⟩
                  case round =>
                   obtain ⟨kD, hkD, rfl, hbD, HDD⟩ := hrel; have HE := hide (HD.out.trans (hbD.mono HD.out.size)); have g5 : wr.cell? ⟨bc, 5, none⟩ = some (.slice ma n3 mc) := HXC.out wr HE.out 5; by_cases hltD : kD < n3
                   · obtain ⟨y, hy⟩ : ∃ y, x.methods[kD]? = some y := ⟨x.methods[kD]'(by rw [<- HN3.out]; exact hltD), List.getElem?_eq_getElem _⟩
                     obtain ⟨gD, oD, rfl, ys, hys, hcell⟩ := Sh.row_at2 HM.out hy; have HY := hide hy; have hG := hide (hcell wr (HB0.out.trans ((H0C.out.trans (HE.out.mono H0C.out.size)).mono HB0.out.size))); have hMy := hide (showMethod_any y ys wr (hys.on (HB0.out.trans ((H0C.out.trans (HE.out.mono H0C.out.size)).mono HB0.out.size)))); have hst : Hid (Pp.mthB y = true -> ∀ t ∈ x.methods.take (kD + 1), Pp.mthB t = true) := hide (fun h => Pp.all_take HDD.out HY.out h); have hnn : Hid (Pp.mthB y = false -> R = false) := hide (fun hb => hno.out (Sh.no_of HC.out (fun h => by have := h.2.2.2.2.2.2.2 y (List.mem_of_getElem? HY.out); rw [hb] at this; cases this)))
                     obtain ⟨vp, vc, vk, rfl, x1, x2, x3, x4⟩ := hys; obtain ⟨za, zb, rfl, _⟩ := x1.len; obtain ⟨zc, zd, rfl, _⟩ := x2.len; obtain ⟨ze, zf, rfl, _⟩ := x3.len; clear x1 x2 x3 x4; have z0 := hG.out 0 _ rfl; have z1 := hG.out 1 _ rfl; have z2 := hG.out 2 _ rfl; have z3 := hG.out 3 _ rfl; have z4 := hG.out 4 _ rfl; have z5 := hG.out 5 _ rfl; have z6 := hG.out 6 _ rfl; have z7 := hG.out 7 _ rfl; have z8 := hG.out 8 _ rfl; rw [Nat.add_zero] at z0; simp only [mthXL] at hMy; generalize (⟨y.name.toArray⟩ : ByteArray) = y0 at *
                     generalize y.stat = y1 at *
                     generalize y.abst = y2 at *
                     generalize y.ret.kind = y3 at *
                     generalize (⟨y.ret.name.toArray⟩ : ByteArray) = y4 at *
                     generalize y.locals = y5 at *
                     generalize y.params.length = k1 at *
                     generalize y.code.length = k2 at *
                     generalize y.catches.length = k3 at *
                     generalize Pp.mthB y = by_ at *
                     clear hcell hy hG HY; have hltD' : (kD : Int) < (n3 : Int) := by omega
                     go_wp2_with fail; refine hMy.out.mono ?_; rintro e w4 ⟨rfl, hb4⟩; have hb24 := hbD.trans (hb4.mono hbD.size); have H4 := hide (HE.out.trans (hb4.mono HE.out.size)); clear hb4 hMy z0 z1 z2 z3 z4 z5 z6 z7 z8 g5; cases by_ with
                     | false =>
                       have hRf := hnn.out (by first | exact rfl | trivial)
                       subst hRf; go_wp2_with fail; go_ret; exact ⟨rfl, (HB0.out.trans ((H0C.out.trans (H4.out.mono H0C.out.size)).mono HB0.out.size))⟩
                     | true =>
                       have HS := hide (hst.out (by first | exact rfl | trivial))
                       go_wp2_with fail
                       go_roundw
                       case rel => exact ⟨kD + 1, by omega, by go_num, hb24, HS⟩
                       case measure => simp [intOf]; omega
                   · have HED := hide (Pp.all_end HDD.out (by rw [<- HN3.out]; omega))
                     have hRt := HC.out.2 ⟨by first | exact rfl | trivial, HB2.out, by omega, by omega, by omega, HEB.out, HEC.out, HED.out⟩
                     have HS := hide (hstep.out hRt); have HEF := hide (H0C.out.trans (HE.out.mono H0C.out.size)); go_wp2_with fail
                     go_roundw
                     case rel => exact ⟨kA + 1, by omega, by go_num, HEF.out, HS⟩
                     case measure => simp [intOf]; omega
  · have HEA := hide (Pp.all_end HAA.out (by rw [<- HL.out]; omega))
    have hRt := HIF.out.2 ⟨by omega, HEA.out⟩
    subst hRt; go_wp2_with fail; go_ret; exact ⟨rfl, HWA.out⟩
end Go.Proofs.YtbbbnciejmdpfaaGreatDoor
