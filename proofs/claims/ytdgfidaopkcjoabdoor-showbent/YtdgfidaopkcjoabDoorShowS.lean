/- What show.Text answers. -/
import Derived.Test.YtdgfidaopkcjoabDoorShowR
import Derived.Test.YtdgfidaopkcjoabDoorShowS0
namespace Go.Proofs.YtdgfidaopkcjoabDoor
open Go.RowKit
set_option linter.unusedVariables false
set_option linter.unusedSimpArgs false

namespace Sh
theorem textX_many (cs : List Pp.XCls) : Pp.textX cs = Pp.wordsT (Pp.manyW clsF cs) := by
  unfold Pp.textX
  rw [many_map]; rfl
/-- What Text answers: bytes of the call's own, or none. -/
def TextIs (w0 w : World) (cs : List Pp.XCls) (e : Ending) : Prop := ∃ rv, e = .returned (.tuple #[rv, .int .i64 (if Pp.progB cs = true then (if (Pp.textX cs).length ≤ 6000 then 0 else 2) else 4)]) ∧
  (if Pp.progB cs = true ∧ (Pp.textX cs).length ≤ 6000 then w.ownsRow w0.heap.size 5 1 rv (Pp.textX cs).length ((Pp.textX cs).map byV) else rv = .slice none 0 0)
end Sh

set_option maxRecDepth 100000 in
set_option maxHeartbeats 8000000 in
theorem Text_any (cs : List Pp.XCls) (v : Value) (w : World) (ht : TabS w) (hp : Tab w) (hg : 3 < w.heap.size ∧ 2 < w.heap.size ∧ 0 < w.heap.size) (h : ProgX w v cs) :
    Calls Tryd.prog 9 #[.agg #[v]] w fun e w' => Sh.TextIs w w' cs e ∧ Below w.heap.size w w' := by
  have hC := hide (fun w' (hb : Below w.heap.size w w') => Check_any cs v w' (ht.below hb) (h.on hb))
  have HT : Hid (Sh.Tabs w.heap.size w) := hide ⟨ht, hp, hg⟩
  have HX := hide h
  obtain ⟨pa, pc, rfl, _⟩ := h.1.len
  obtain ⟨len, hlen⟩ : ∃ len, len = cs.length := ⟨_, rfl⟩
  have HL := hide hlen
  rw [← hlen] at hC HX ⊢
  clear h ht hp hg hlen
  have HQ : Hid (∀ e w', Sh.TextIs w w' cs e = ∃ rv, e = .returned (.tuple #[rv, .int .i64 (if Pp.progB cs = true then (if (Pp.textX cs).length ≤ 6000 then 0 else 2) else 4)]) ∧ (if Pp.progB cs = true ∧ (Pp.textX cs).length ≤ 6000 then w'.ownsRow w.heap.size 5 1 rv (Pp.textX cs).length ((Pp.textX cs).map Sh.byV) else rv = .slice none 0 0)) := hide fun _ _ => rfl
  have HOK : Hid (Pp.progB cs = true → (Pp.textX cs).length ≤ 352000 ∧ len ≤ 10 ∧ ∀ c ∈ cs, Pp.clsB c = true) := hide fun h => by
    refine ⟨Pp.textX_len h, ?_⟩
    unfold Pp.progB at h
    rw [Pp.eachB_iff] at h
    rw [HL.out]; exact h
  have HTX := hide (Sh.textX_many cs)
  cases hb : Pp.progB cs with
  | false =>
    rw [hb] at hC
    rw [if_neg Bool.false_ne_true] at hC
    have HB := hide hb
    clear hb
    go_enter Tryd.func9, Tryd.ntmps9
    go_wp2_with fail
    refine (hC.out _ ((Below.refl _ _).alloc (Nat.le_refl _) _)).mono ?_
    rintro e w1 ⟨rfl, hb1⟩
    obtain ⟨B1, HBl, hsz⟩ := box_one hb1
    have HBl := hide HBl
    clear B1 hb1 hC
    go_wp2_with fail
    go_ret2
    refine ⟨?_, HBl.out⟩
    rw [HQ.out, HB.out]
    exact ⟨_, rfl, by simp⟩
  | true =>
    rw [hb] at hC
    rw [if_pos rfl] at hC
    obtain ⟨t1, t2, t3⟩ := HOK.out hb
    have HB := hide hb
    have HT3 := hide t3
    clear hb HOK t3
    obtain ⟨TX, hTX⟩ : ∃ TX, TX = Pp.textX cs := ⟨_, rfl⟩
    have HTx2 := hide hTX
    rw [← hTX] at t1
    clear hTX
    have HW : Hid (∀ w0 : World, Below w.heap.size w w0 → w.heap.size ≤ w0.heap.size → Sh.Wr w.heap.size (w0.alloc (.cells #[.slice none 0 0] 61)) w0.heap.size [] (.slice none 0 0)) := hide fun w0 h0 h1 => ⟨h1, by simp; omega, heap_alloc_new w0 _, World.ownsRow_nil _ _ _ _⟩
    go_enter Tryd.func9, Tryd.ntmps9
    go_wp2_with fail
    refine (hC.out _ ((Below.refl _ _).alloc (Nat.le_refl _) _)).mono ?_
    rintro e w1 ⟨rfl, hb1⟩
    obtain ⟨B1, HBl, hsz⟩ := box_one hb1
    have p0 : w1.cell? ⟨w.heap.size, 0, none⟩ = some (.slice pa len pc) := B1 0
    have HWa := hide (HW.out w1 HBl (by omega))
    have HBa := hide (HBl.alloc (by omega) (.cells #[.slice none 0 0] 61))
    clear B1 hb1 hC HW HBl
    go_wp2_with fail
    clear p0
    generalize w1.alloc (.cells #[.slice none 0 0] 61) = wa at *
    generalize w1.heap.size = bw at *
    go_loopw [16] (fun i wr => ∃ (k : Nat) (v : Value), k ≤ len ∧ i = .int .i64 k ∧ Sh.Wr w.heap.size wr bw (Pp.wordsT (Pp.manyW Sh.clsF (cs.take k))) v ∧ Sh.Ke w.heap.size wa wr) (fun i _ => len - (intOf i).toNat)
    case atStart => exact ⟨0, _, Nat.zero_le _, rfl, by simpa [Pp.manyW, Pp.wordsT, Pp.sayL] using HWa.out, Sh.Ke.refl _ _⟩
    case round =>
      clear HWa
      obtain ⟨k, v0, hk, rfl, hwr, hke⟩ := hrel
      by_cases hlt : k < len
      · obtain ⟨x, hx⟩ : ∃ x, cs[k]? = some x := ⟨cs[k]'(by rw [← HL.out]; exact hlt), List.getElem?_eq_getElem _⟩
        obtain ⟨g, o, rfl, ys, hy, hcell⟩ := Sh.row_at HX.out.1 hx
        have hbr := HBa.out.trans hke.bel
        have hS := Sh.manyT_take Sh.clsF hx
        have hS2 := Sh.manyT_le Sh.clsF cs (k + 1)
        have HA : Hid (Pp.wordsT (Pp.manyW Sh.clsF (cs.take (k + 1))) = Pp.wordsT (Pp.manyW Sh.clsF (cs.take k)) ++ Pp.wordsT (Sh.clsF x)) := hide hS
        rw [hS] at hS2
        have hle2 : (Pp.wordsT (Pp.manyW Sh.clsF (cs.take k))).length + (Pp.wordsT (Sh.clsF x)).length ≤ 1000000000 := by
          have h1 := HTX.out
          rw [HTx2.out, h1] at t1
          simp only [List.length_append] at hS2
          omega
        have HI := hide (fun o => wclass_any w bw x ys hy (HT3.out x (List.mem_of_getElem? hx)) _ v0 (wr.alloc o) (hwr.alloc o) (HT.out.on (hbr.trans (Sh.Ke.alloc hwr.2.1 o).bel)) (hbr.trans (Sh.Ke.alloc hwr.2.1 o).bel) hle2)
        have HKA := hide (fun o => hke.trans (Sh.Ke.alloc hwr.2.1 o))
        rw [← HA.out] at HI
        have hG := hide (hcell wr hbr)
        obtain ⟨vp, vc, vk, rfl, x1, x2, x3, x4⟩ := hy
        obtain ⟨za, zb, rfl, _⟩ := x1.len
        obtain ⟨zc, zd, rfl, _⟩ := x2.len
        obtain ⟨ze, zf, rfl, _⟩ := x3.len
        clear x1 x2 x3 x4
        have r0 := hG.out 0 _ rfl
        have r1 := hG.out 1 _ rfl
        have r2 := hG.out 2 _ rfl
        have r3 := hG.out 3 _ rfl
        have r4 := hG.out 4 _ rfl
        have r5 := hG.out 5 _ rfl
        rw [Nat.add_zero] at r0
        clear hcell hx hS hS2 hle2 hbr hwr hke HA HX hG
        simp only [clsXL] at HI
        generalize (⟨x.name.toArray⟩ : ByteArray) = y0 at *
        generalize x.iface = y1 at *
        generalize (⟨x.super.toArray⟩ : ByteArray) = y2 at *
        generalize x.ifaces.length = z1 at *
        generalize x.fields.length = z2 at *
        generalize x.methods.length = z3 at *
        have hlt' : (k : Int) < (len : Int) := by omega
        go_wp2_with fail
        refine (HI.out _).mono ?_
        rintro e w4 ⟨rfl, ⟨v4, h41⟩, h42⟩
        have HW4 := hide h41
        have HK4' := hide ((HKA.out _).trans h42)
        clear h41 h42 HI HKA r0 r1 r2 r3 r4 r5
        go_wp2_with fail
        go_roundw
        case rel => exact ⟨k + 1, v4, by omega, by go_num, HW4.out, HK4'.out⟩
        case measure => simp [intOf]; omega
      · rw [List.take_of_length_le (by rw [← HL.out]; omega), ← HTX.out, ← HTx2.out] at hwr
        have hb2 := HBa.out.trans hke.bel
        obtain ⟨a2, c2, rfl⟩ := Sh.own_shape hwr.2.2.2
        have c0 := hwr.cell
        have HO := hide hwr.2.2.2
        have HB2 := hide hb2
        clear hwr hke hb2
        by_cases h6 : TX.length ≤ 6000
        · have h6' : ¬ (6000 : Int) < (TX.length : Int) := by omega
          go_wp2_with fail
          go_ret2
          refine ⟨?_, HB2.out⟩
          rw [HQ.out, HB.out, ← HTx2.out]
          refine ⟨.slice a2 TX.length c2, ?_, ?_⟩
          · rw [if_pos rfl, if_pos h6]; rfl
          · rw [if_pos ⟨rfl, h6⟩]; exact HO.out
        · have h6' : (6000 : Int) < (TX.length : Int) := by omega
          go_wp2_with fail
          go_ret2
          refine ⟨?_, HB2.out⟩
          rw [HQ.out, HB.out, ← HTx2.out]
          refine ⟨.slice none 0 0, ?_, ?_⟩
          · rw [if_pos rfl, if_neg h6]; rfl
          · rw [if_neg (fun h => h6 h.2)]

end Go.Proofs.YtdgfidaopkcjoabDoor
