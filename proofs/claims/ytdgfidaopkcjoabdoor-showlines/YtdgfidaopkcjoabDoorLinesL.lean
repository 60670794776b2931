/- ShowLines' walk. -/
import Derived.Test.YtdgfidaopkcjoabDoorShowU
import Derived.Test.YtdgfidaopkcjoabDoorHeavyX
import Derived.Test.YtdgfidaopkcjoabDoorShownD
import Derived.Test.YtdgfidaopkcjoabDoorLinesP
import Derived.BigQuiet
import Derived.Deep.QuietTactic
import Derived.WalkSmall
namespace Go.Proofs.YtdgfidaopkcjoabDoor
open Go.RowKit
set_option linter.unusedVariables false
set_option linter.unusedSimpArgs false

namespace Pp
theorem linM_le {m : XMth} (h : LtM m) : linM m ≤ 80 := by
  have h1 := h.1
  unfold linM
  split <;> omega
theorem linMs_le : ∀ (l : List XMth), (∀ m ∈ l, LtM m) → linMs l ≤ 80 * l.length
  | [], _ => by simp [linMs]
  | m :: r, h => by
    have h1 := linM_le (h m (by simp))
    have h2 := linMs_le r fun x hx => h x (by simp [hx])
    simp only [linMs, List.length_cons]
    omega
theorem linC_le {c : XCls} (h : LtC c) : linC c ≤ 2000 := by
  have h1 := linMs_le c.methods h.2.2.2
  have h2 := h.1
  unfold linC
  omega
theorem linCs_le : ∀ (l : List XCls), (∀ m ∈ l, LtC m) → linCs l ≤ 2000 * l.length
  | [], _ => by simp [linCs]
  | m :: r, h => by
    have h1 := linC_le (h m (by simp))
    have h2 := linCs_le r fun x hx => h x (by simp [hx])
    simp only [linCs, List.length_cons]
    omega
end Pp

set_option maxRecDepth 100000 in
set_option maxHeartbeats 8000000 in
theorem lines_walk (v : Value) (cs : List Pp.XCls) (w : World) (ht : TabS w) (hp : Tab w) (hg : 3 < w.heap.size ∧ 2 < w.heap.size ∧ 0 < w.heap.size) (h : ProgX w v cs) :
    Calls Tryd.prog 4 #[.agg #[v]] w fun e w' => e = .returned (.bool true) ∧ Below w.heap.size w w' := by
  have HT : Hid (Sh.Tabs w.heap.size w) := hide ⟨ht, hp, hg⟩
  clear ht hp hg
  have hHv := hide (fun w' (hb : Below w.heap.size w w') => Heavy_any cs v w' (h.on hb))
  have hSh := hide (fun w' (hb : Below w.heap.size w w') => Shown_any cs v w' (h.on hb))
  have hTx := hide (fun w' (hb : Below w.heap.size w w') => Text_any cs v w' (HT.out.on hb).ws (HT.out.on hb).pw (by have := (HT.out.on hb).hB; have := hb.size; omega) (h.on hb))
  have hWk : Hid (∀ w', Below w.heap.size w w' → Calls Tryd.prog 8 #[] w' fun e w'' => e = .returned (.bool true) ∧ Below w'.heap.size w' w'') := hide fun w' hb => by
    have ht := HT.out.on hb
    exact wakes_any w' ht.ws ht.pw (by have := ht.hB; have := hb.size; omega)
  have HX := hide h
  obtain ⟨pa, pc, rfl, hpc⟩ := h.1.len
  obtain ⟨len, hlen⟩ : ∃ len, len = cs.length := ⟨_, rfl⟩
  have HL := hide hlen
  rw [← hlen] at hHv hSh hTx HX hpc ⊢
  clear h hlen
  go_enter Tryd.func4, Tryd.ntmps4
  go_wp2_with fail
  refine (hHv.out _ ((Below.refl _ _).alloc (Nat.le_refl _) _)).mono ?_
  rintro e w1 ⟨⟨b, rfl, hlight⟩, hb1⟩
  obtain ⟨B1, HB, hsz⟩ := box_one hb1
  have p0 : w1.cell? ⟨w.heap.size, 0, none⟩ = some (.slice pa len pc) := B1 0
  have HB1 := hide HB
  clear B1 hb1 hHv HB
  cases b with
  | true =>
    go_wp2_with fail
    go_ret
    exact ⟨rfl, HB1.out⟩
  | false =>
    have HLi := hide (hlight rfl)
    clear hlight
    go_wp2_with fail
    refine (hSh.out _ HB1.out).mono ?_
    rintro e w2 ⟨rfl, hb2⟩
    have HB2 := hide (HB1.out.trans (hb2.mono HB1.out.size))
    have p2 := (hb2.cell (p := ⟨w.heap.size, 0, none⟩) (by exact hsz)).trans p0
    have hsz2 := Nat.lt_of_lt_of_le hsz hb2.size
    clear hb2 p0 hsz hSh
    cases hpb : Pp.progB cs with
    | false =>
      clear hpb
      go_wp2_with fail
      go_ret
      exact ⟨rfl, HB2.out⟩
    | true =>
      have HPB := hide hpb
      clear hpb
      go_wp2_with fail
      refine (hTx.out _ HB2.out).mono ?_
      rintro e w3 ⟨⟨rv, rfl, hrv⟩, hb3⟩
      have HB3 := hide (HB2.out.trans (hb3.mono HB2.out.size))
      have p3 := (hb3.cell (p := ⟨w.heap.size, 0, none⟩) (by exact hsz2)).trans p2
      have hsz3 := Nat.lt_of_lt_of_le hsz2 hb3.size
      clear hb3 p2 hsz2 hTx HB2
      rw [if_pos HPB.out]
      by_cases hok : (Pp.textX cs).length ≤ 6000
      · rw [if_pos ⟨HPB.out, hok⟩] at hrv
        rw [if_pos hok]
        obtain ⟨ra, rc, rfl⟩ := Sh.own_shape hrv
        have hrow : ∀ i, i < (Pp.textX cs).length → ∃ g, ra = some ⟨g, 0, none⟩ ∧ w3.cell? ⟨g, i, none⟩ = some (.int .u8 (((Pp.textX cs).getD i 0).toNat : Int)) := by
          intro i hi
          rcases hrv.2 with ⟨e0, e⟩ | ⟨g, cap, cur, e0, hb, hg, r1, r2, r3, r4⟩
          · rw [e] at hi; exact absurd hi (Nat.not_lt_zero _)
          · injection e0 with e1 e2 e3
            subst e1
            refine ⟨g, rfl, ?_⟩
            rw [cell_box hg]
            have h5 := congrArg (fun x : List Value => x[i]?) r4
            simp only [List.getElem?_map, List.getElem?_take] at h5
            rw [if_pos (by omega)] at h5
            rw [List.getElem?_eq_getElem hi] at h5
            simp only [Option.map_some, Array.getElem?_toList] at h5
            rw [h5]
            simp [Sh.byV, List.getD, hi]
        have HR := hide hrow
        have hlt3 : ∀ g, ra = some ⟨g, 0, none⟩ → 0 < (Pp.textX cs).length → g < w3.heap.size := by
          intro g hg h0
          obtain ⟨g', e, hc⟩ := hrow 0 h0
          rw [hg] at e
          injection e with e
          injection e with e
          subst e
          exact World.block_lt_of_cell? w3 _ hc
        have HR3 := hide hlt3
        have HNL := hide (Pp.nl_text HPB.out)
        have hcl := Pp.linCs_le cs HLi.out.2
        have h14 := HLi.out.1
        have HCL : Hid (Pp.linCs cs ≤ 28000) := hide (by omega)
        obtain ⟨TX, hTX⟩ : ∃ TX, TX = Pp.textX cs := ⟨_, rfl⟩
        rw [← hTX] at HR HR3 HNL hok ⊢
        have hl14 : len ≤ 14 := by rw [HL.out]; exact h14
        clear hrv hrow hlt3 hcl h14 hTX
        obtain ⟨tl, htl⟩ : ∃ tl, tl = TX.length := ⟨_, rfl⟩
        have HTL := hide htl
        rw [← htl] at hok ⊢
        clear htl
        have HLE : Hid (∀ k, k ≤ 14 → Pp.linCs (cs.take k) ≤ 28000) := hide fun k hk => by
          have h1 := Pp.linCs_le (cs.take k) fun c hc => HLi.out.2 c (List.mem_of_mem_take hc)
          rw [List.length_take] at h1
          omega
        go_wp2_with fail
        go_loopw [5, 7] (fun a i wr => ∃ k : Nat, k ≤ len ∧ i = .int .i64 k ∧ a = .int .i64 ((Pp.linCs (cs.take k) : Nat) : Int) ∧ Below w3.heap.size w3 wr) (fun _ i _ => len - (intOf i).toNat)
        case atStart => exact ⟨0, Nat.zero_le _, rfl, rfl, Below.refl _ _⟩
        case round =>
          obtain ⟨kA, hkA, rfl, rfl, hbA⟩ := hrel
          have pA := (hbA.cell (p := ⟨w.heap.size, 0, none⟩) (by exact hsz3)).trans p3
          have HBA := hide (HB3.out.trans (hbA.mono HB3.out.size))
          have hle1 := HLE.out kA (by omega)
          by_cases hltA : kA < len
          · obtain ⟨x, hx⟩ : ∃ x, cs[kA]? = some x := ⟨cs[kA]'(by rw [← HL.out]; exact hltA), List.getElem?_eq_getElem _⟩
            obtain ⟨g, o, rfl, ys, hy, hcell⟩ := Hv.row_at HX.out.1 hx
            have hG := hide (hcell wr HBA.out)
            have HTk := hide (Pp.linCs_take hx)
            have HLx := hide (HLi.out.2 x (List.mem_of_getElem? hx))
            obtain ⟨vi, vf, vm, rfl, x1, x2, x3, x4⟩ := hy
            obtain ⟨ia, ic, rfl, _⟩ := x1.len
            obtain ⟨fa, fc, rfl, _⟩ := x2.len
            obtain ⟨ma, mc, rfl, _⟩ := x3.len
            have r0 := hG.out 0 _ rfl
            have r1 := hG.out 1 _ rfl
            have r2 := hG.out 2 _ rfl
            have r3 := hG.out 3 _ rfl
            have r4 := hG.out 4 _ rfl
            have r5 := hG.out 5 _ rfl
            rw [Nat.add_zero] at r0
            have hn14 := HLx.out.1
            obtain ⟨n1, hn1⟩ : ∃ n, n = x.ifaces.length := ⟨_, rfl⟩
            obtain ⟨n2, hn2⟩ : ∃ n, n = x.fields.length := ⟨_, rfl⟩
            obtain ⟨n3, hn3⟩ : ∃ n, n = x.methods.length := ⟨_, rfl⟩
            have HN2 := hide hn2
            have HN3 := hide hn3
            rw [← hn1] at r3
            rw [← hn2] at r4
            rw [← hn3] at r5 x3
            have hn2b : n2 ≤ 14 := by rw [hn2]; exact hn14.1
            have hn3b : n3 ≤ 14 := by rw [hn3]; exact hn14.2.1
            have HM := hide x3
            have HLM : Hid (∀ j, j ≤ 14 → Pp.linMs (x.methods.take j) ≤ 1120) := hide fun j hj => by
              have h1 := Pp.linMs_le (x.methods.take j) fun c hc => HLx.out.2.2.2 c (List.mem_of_mem_take hc)
              rw [List.length_take] at h1
              omega
            have HMm : Hid (∀ m ∈ x.methods, Pp.LtM m) := hide HLx.out.2.2.2
            generalize (⟨x.name.toArray⟩ : ByteArray) = S0 at r0
            generalize (⟨x.super.toArray⟩ : ByteArray) = S2 at r2
            generalize x.iface = bI at r1
            generalize hAC : Pp.linCs (cs.take kA) = ac at *
            have HAC := hide hAC
            clear hcell x1 x2 x3 x4 hG hn1 hn2 hn3 hx hn14 hAC HX
            have hltA' : (kA : Int) < (len : Int) := by omega
            have hc5 : ∀ o : Obj, (wr.alloc o).heap[wr.heap.size]? = some o := fun o => heap_alloc_new wr o
            have hcc : (wr.alloc (.cells #[.string S0, .bool bI, .string S2, .slice ia n1 ic, .slice fa n2 fc, .slice ma n3 mc] 32)).cell? ⟨wr.heap.size, 5, none⟩ = some (.slice ma n3 mc) := cell_box (hc5 _) 5
            have hbC := hbA.alloc hbA.size (.cells #[.string S0, .bool bI, .string S2, .slice ia n1 ic, .slice fa n2 fc, .slice ma n3 mc] 32)
            have hsC : wr.heap.size < (wr.alloc (.cells #[.string S0, .bool bI, .string S2, .slice ia n1 ic, .slice fa n2 fc, .slice ma n3 mc] 32)).heap.size := by simp
            have HBC := hide (HB3.out.trans (hbC.mono HB3.out.size))
            have HBc := hide hbC
            clear hc5 hbC
            go_wp2_with fail
            clear r0 r1 r2 r3 r4 r5 pA
            generalize wr.alloc (.cells #[.string S0, .bool bI, .string S2, .slice ia n1 ic, .slice fa n2 fc, .slice ma n3 mc] 32) = wc at *
            generalize wr.heap.size = bc at hsC hcc ⊢
            clear hbA HBA
            go_loopw [5, 9] (fun a i wr => ∃ k : Nat, k ≤ n3 ∧ i = .int .i64 k ∧ a = .int .i64 ((ac + 2 + n2 + Pp.linMs (x.methods.take k) : Nat) : Int) ∧ Below wc.heap.size wc wr) (fun _ i _ => n3 - (intOf i).toNat)
            case atStart => exact ⟨0, Nat.zero_le _, rfl, by simp [Pp.linMs], Below.refl _ _⟩
            case round =>
              obtain ⟨kB, hkB, rfl, rfl, hbB⟩ := hrel
              have qB := (hbB.cell (p := ⟨bc, 5, none⟩) (by exact hsC)).trans hcc
              have HBB := hide (HBC.out.trans (hbB.mono HBC.out.size))
              have hle2 := HLM.out kB (by omega)
              by_cases hltB : kB < n3
              · obtain ⟨y, hy⟩ : ∃ y, x.methods[kB]? = some y := ⟨x.methods[kB]'(by rw [← HN3.out]; exact hltB), List.getElem?_eq_getElem _⟩
                obtain ⟨g2, o2, rfl, ys, hys, hcell⟩ := Hv.row_at HM.out hy
                have hG := hide (hcell wr HBB.out)
                have HTm := hide (Pp.linMs_take hy)
                have hLt := (HMm.out y (List.mem_of_getElem? hy)).1
                obtain ⟨vp, vc, vk, rfl, x1, x2, x3, x4⟩ := hys
                obtain ⟨za, zb, rfl, _⟩ := x1.len
                obtain ⟨zc, zd, rfl, _⟩ := x2.len
                obtain ⟨ze, zf, rfl, _⟩ := x3.len
                have z2 := hG.out 2 _ rfl
                have z7 := hG.out 7 _ rfl
                have z8 := hG.out 8 _ rfl
                have hm1 := hLt.2.2.1
                have hm2 := hLt.2.2.2.1
                have HLM2 : Hid (Pp.linM y = 1 + (if y.abst = true then 0 else 1 + y.code.length + y.catches.length)) := rfl
                generalize Pp.linM y = ly at *
                generalize Pp.linMs (x.methods.take kB) = am at *
                generalize y.abst = ab at *
                generalize y.code.length = k1 at *
                generalize y.catches.length = k2 at *
                clear hcell hG x1 x2 x3 x4 hy hLt
                have hltB' : (kB : Int) < (n3 : Int) := by omega
                cases ab with
                | true =>
                  have hly : ly = 1 := HLM2.out
                  go_wp2_with fail
                  go_roundw
                  case rel => exact ⟨kB + 1, by omega, by go_num, by rw [HTm.out, hly]; congr 1 <;> omega, hbB⟩
                  case measure => simp [intOf]; omega
                | false =>
                  have hly : ly = 1 + (1 + k1 + k2) := HLM2.out
                  go_wp2_with fail
                  go_quiet (fail)
                  go_wp2_with fail
                  go_roundw
                  case rel => exact ⟨kB + 1, by omega, by go_num, by rw [HTm.out, hly]; congr 1 <;> omega, by first | exact hbB | exact below_drewN hbB _⟩
                  case measure => simp [intOf]; omega
              · have hall : x.methods.take kB = x.methods := List.take_of_length_le (by rw [← HN3.out]; omega)
                rw [hall] at hle2 ⊢
                have HEQ : Hid (Pp.linCs (cs.take (kA + 1)) = ac + 2 + n2 + Pp.linMs x.methods) := hide (by
                  rw [HTk.out, HN2.out]; unfold Pp.linC; omega)
                have HBx := hide (HBc.out.trans (hbB.mono HBc.out.size))
                generalize Pp.linMs x.methods = lm at *
                go_wp2_with fail
                go_roundw
                case rel => exact ⟨kA + 1, by omega, by go_num, by rw [HEQ.out], HBx.out⟩
                case measure => simp [intOf]; omega
          · have hall : cs.take kA = cs := List.take_of_length_le (by rw [← HL.out]; omega)
            rw [hall] at hle1 ⊢
            have HBa := hide hbA
            go_wp2_with fail
            obtain ⟨wA, rfl⟩ : ∃ wA : World, wA = wr := ⟨_, rfl⟩
            clear pA hbA hkA hltA
            go_loopw [6, 10] (fun a i wr => ∃ k : Nat, k ≤ tl ∧ i = .int .i64 k ∧ a = .int .i64 ((Pp.nl (TX.take k) : Nat) : Int) ∧ Below wA.heap.size wA wr) (fun _ i _ => tl - (intOf i).toNat)
            case atStart => exact ⟨0, Nat.zero_le _, rfl, rfl, Below.refl _ _⟩
            case round =>
              obtain ⟨kC, hkC, rfl, rfl, hbC⟩ := hrel
              have hnl : Pp.nl (TX.take kC) ≤ kC := by
                have := List.countP_le_length (p := fun x : UInt8 => x == 10) (l := TX.take kC)
                rw [List.length_take] at this
                unfold Pp.nl
                omega
              by_cases hltC : kC < tl
              · obtain ⟨g, hg, hcell⟩ := HR.out kC (by rw [← HTL.out]; exact hltC)
                subst hg
                have hgl := HR3.out g rfl (by rw [← HTL.out]; omega)
                have hb3C := HBa.out.trans (hbC.mono HBa.out.size)
                have z0 := (hb3C.cell (p := ⟨g, kC, none⟩) (by exact hgl)).trans hcell
                have hst : Hid (Pp.nl (TX.take (kC + 1)) = Pp.nl (TX.take kC) + (if TX.getD kC 0 = 10 then 1 else 0)) := hide (by
                  have hk : kC < TX.length := by rw [← HTL.out]; exact hltC
                  rw [List.take_add_one, List.getElem?_eq_getElem hk]
                  show Pp.nl (TX.take kC ++ [TX[kC]]) = _
                  rw [Pp.nl_snoc]
                  simp [List.getD, hk])
                generalize TX.getD kC 0 = d at *
                generalize Pp.nl (TX.take kC) = nk at *
                clear hcell hgl hb3C
                have hltC' : (kC : Int) < (tl : Int) := by omega
                by_cases hd : d = 10
                · subst hd
                  rw [if_pos rfl] at hst
                  go_wp2_with fail
                  go_roundw
                  case rel => exact ⟨kC + 1, by omega, by go_num, by rw [hst.out]; congr 1, hbC⟩
                  case measure => simp [intOf]; omega
                · rw [if_neg hd] at hst
                  have hd' : ((d.toNat : Int) == 10) = false := by
                    rw [beq_eq_false_iff_ne]
                    intro e
                    apply hd
                    apply UInt8.toNat_inj.1
                    have : d.toNat = 10 := by omega
                    rw [this]; rfl
                  clear hd
                  go_wp2_with fail
                  go_roundw
                  case rel => exact ⟨kC + 1, by omega, by go_num, by rw [hst.out]; congr 1, hbC⟩
                  case measure => simp [intOf]; omega
              · have hall2 : TX.take kC = TX := List.take_of_length_le (by rw [← HTL.out]; omega)
                rw [hall2, HNL.out]
                have HBd := hide (HB3.out.trans ((HBa.out.trans (hbC.mono HBa.out.size)).mono HB3.out.size))
                clear hbC
                generalize Pp.linCs cs = lc at *
                go_wp2_with fail
                refine (hWk.out _ HBd.out).mono ?_
                rintro e w7 ⟨rfl, hb7⟩
                have HB7 := hide (HBd.out.trans (hb7.mono HBd.out.size))
                clear hb7
                go_wp2_with fail
                go_ret
                exact ⟨rfl, HB7.out⟩
      · rw [if_neg (fun h => hok h.2)] at hrv
        rw [if_neg hok]
        subst hrv
        clear hok
        go_wp2_with fail
        refine (hWk.out _ HB3.out).mono ?_
        rintro e w4 ⟨rfl, hb4⟩
        have HB4 := hide (HB3.out.trans (hb4.mono HB3.out.size))
        clear hb4
        go_wp2_with fail
        go_ret
        exact ⟨rfl, HB4.out⟩

end Go.Proofs.YtdgfidaopkcjoabDoor
