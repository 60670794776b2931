/- What show.Text answers. What show.Type answers. What the closed look answers. -/
import Derived.Test.YtdgfidaopkcjoaaDoorShowR
import Derived.Test.YtdgfidaopkcjoaaDoorMgA
import Derived.Test.YtdgfidaopkcjoaaDoorShelfJ
import Derived.Lib.SlBytesRow
namespace Go.Proofs.YtdgfidaopkcjoaaDoor
open Go.RowKit
set_option linter.unusedVariables false
set_option linter.unusedSimpArgs false

namespace Sh
theorem textX_many (cs : List Pp.XCls) : Pp.textX cs = Pp.wordsT (Pp.manyW clsF cs) := by
  unfold Pp.textX
  rw [many_map]; rfl
/-- What Text answers: bytes of the call's own, or none. -/
def TextIs (w0 w : World) (cs : List Pp.XCls) (e : Ending) : Prop := ∃ rv, e = .returned (.tuple #[rv, .int .i64 (if Pp.progB cs = true then (if (Pp.textX cs).length ≤ 6000 then 0 else 2) else 4)]) ∧
  (if Pp.progB cs = true ∧ (Pp.textX cs).length ≤ 6000 then w.ownsRow w0.heap.size 5 1 rv (Pp.textX cs).length ((Pp.textX cs).map byV) else rv = .slice none 0 0)
end Sh

set_option maxRecDepth 100000 in
set_option maxHeartbeats 8000000 in
theorem Text_any (cs : List Pp.XCls) (v : Value) (w : World) (ht : TabS w) (hp : Tab w) (hg : 3 < w.heap.size ∧ 2 < w.heap.size ∧ 0 < w.heap.size) (h : ProgX w v cs) :
    Calls Tryd.prog 9 #[.agg #[v]] w fun e w' => Sh.TextIs w w' cs e ∧ Below w.heap.size w w' := by
  have hC := hide (fun w' (hb : Below w.heap.size w w') => Check_any cs v w' (ht.below hb) (h.on hb))
  have HT : Hid (Sh.Tabs w.heap.size w) := hide ⟨ht, hp, hg⟩
  have HX := hide h
  obtain ⟨pa, pc, rfl, _⟩ := h.1.len
  obtain ⟨len, hlen⟩ : ∃ len, len = cs.length := ⟨_, rfl⟩
  have HL := hide hlen
  rw [← hlen] at hC HX ⊢
  clear h ht hp hg hlen
  have HQ : Hid (∀ e w', Sh.TextIs w w' cs e = ∃ rv, e = .returned (.tuple #[rv, .int .i64 (if Pp.progB cs = true then (if (Pp.textX cs).length ≤ 6000 then 0 else 2) else 4)]) ∧ (if Pp.progB cs = true ∧ (Pp.textX cs).length ≤ 6000 then w'.ownsRow w.heap.size 5 1 rv (Pp.textX cs).length ((Pp.textX cs).map Sh.byV) else rv = .slice none 0 0)) := hide fun _ _ => rfl
  have HOK : Hid (Pp.progB cs = true → (Pp.textX cs).length ≤ 352000 ∧ len ≤ 10 ∧ ∀ c ∈ cs, Pp.clsB c = true) := hide fun h => by
    refine ⟨Pp.textX_len h, ?_⟩
    unfold Pp.progB at h
    rw [Pp.eachB_iff] at h
    rw [HL.out]; exact h
  have HTX := hide (Sh.textX_many cs)
  cases hb : Pp.progB cs with
  | false =>
    rw [hb] at hC
    rw [if_neg Bool.false_ne_true] at hC
    have HB := hide hb
    clear hb
    go_enter Tryd.func9, Tryd.ntmps9
    go_wp2_with fail
    refine (hC.out _ ((Below.refl _ _).alloc (Nat.le_refl _) _)).mono ?_
    rintro e w1 ⟨rfl, hb1⟩
    obtain ⟨B1, HBl, hsz⟩ := box_one hb1
    have HBl := hide HBl
    clear B1 hb1 hC
    go_wp2_with fail
    go_ret2
    refine ⟨?_, HBl.out⟩
    rw [HQ.out, HB.out]
    exact ⟨_, rfl, by simp⟩
  | true =>
    rw [hb] at hC
    rw [if_pos rfl] at hC
    obtain ⟨t1, t2, t3⟩ := HOK.out hb
    have HB := hide hb
    have HT3 := hide t3
    clear hb HOK t3
    obtain ⟨TX, hTX⟩ : ∃ TX, TX = Pp.textX cs := ⟨_, rfl⟩
    have HTx2 := hide hTX
    rw [← hTX] at t1
    clear hTX
    have HW : Hid (∀ w0 : World, Below w.heap.size w w0 → w.heap.size ≤ w0.heap.size → Sh.Wr w.heap.size (w0.alloc (.cells #[.slice none 0 0] 62)) w0.heap.size [] (.slice none 0 0)) := hide fun w0 h0 h1 => ⟨h1, by simp; omega, heap_alloc_new w0 _, World.ownsRow_nil _ _ _ _⟩
    go_enter Tryd.func9, Tryd.ntmps9
    go_wp2_with fail
    refine (hC.out _ ((Below.refl _ _).alloc (Nat.le_refl _) _)).mono ?_
    rintro e w1 ⟨rfl, hb1⟩
    obtain ⟨B1, HBl, hsz⟩ := box_one hb1
    have p0 : w1.cell? ⟨w.heap.size, 0, none⟩ = some (.slice pa len pc) := B1 0
    have HWa := hide (HW.out w1 HBl (by omega))
    have HBa := hide (HBl.alloc (by omega) (.cells #[.slice none 0 0] 62))
    clear B1 hb1 hC HW HBl
    go_wp2_with fail
    clear p0
    generalize w1.alloc (.cells #[.slice none 0 0] 62) = wa at *
    generalize w1.heap.size = bw at *
    go_loopw [16] (fun i wr => ∃ (k : Nat) (v : Value), k ≤ len ∧ i = .int .i64 k ∧ Sh.Wr w.heap.size wr bw (Pp.wordsT (Pp.manyW Sh.clsF (cs.take k))) v ∧ Sh.Ke w.heap.size wa wr) (fun i _ => len - (intOf i).toNat)
    case atStart => exact ⟨0, _, Nat.zero_le _, rfl, by simpa [Pp.manyW, Pp.wordsT, Pp.sayL] using HWa.out, Sh.Ke.refl _ _⟩
    case round =>
      clear HWa
      obtain ⟨k, v0, hk, rfl, hwr, hke⟩ := hrel
      by_cases hlt : k < len
      · obtain ⟨x, hx⟩ : ∃ x, cs[k]? = some x := ⟨cs[k]'(by rw [← HL.out]; exact hlt), List.getElem?_eq_getElem _⟩
        obtain ⟨g, o, rfl, ys, hy, hcell⟩ := Sh.row_at HX.out.1 hx
        have hbr := HBa.out.trans hke.bel
        have hS := Sh.manyT_take Sh.clsF hx
        have hS2 := Sh.manyT_le Sh.clsF cs (k + 1)
        have HA : Hid (Pp.wordsT (Pp.manyW Sh.clsF (cs.take (k + 1))) = Pp.wordsT (Pp.manyW Sh.clsF (cs.take k)) ++ Pp.wordsT (Sh.clsF x)) := hide hS
        rw [hS] at hS2
        have hle2 : (Pp.wordsT (Pp.manyW Sh.clsF (cs.take k))).length + (Pp.wordsT (Sh.clsF x)).length ≤ 1000000000 := by
          have h1 := HTX.out
          rw [HTx2.out, h1] at t1
          simp only [List.length_append] at hS2
          omega
        have HI := hide (fun o => wclass_any w bw x ys hy (HT3.out x (List.mem_of_getElem? hx)) _ v0 (wr.alloc o) (hwr.alloc o) (HT.out.on (hbr.trans (Sh.Ke.alloc hwr.2.1 o).bel)) (hbr.trans (Sh.Ke.alloc hwr.2.1 o).bel) hle2)
        have HKA := hide (fun o => hke.trans (Sh.Ke.alloc hwr.2.1 o))
        rw [← HA.out] at HI
        have hG := hide (hcell wr hbr)
        obtain ⟨vp, vc, vk, rfl, x1, x2, x3, x4⟩ := hy
        obtain ⟨za, zb, rfl, _⟩ := x1.len
        obtain ⟨zc, zd, rfl, _⟩ := x2.len
        obtain ⟨ze, zf, rfl, _⟩ := x3.len
        clear x1 x2 x3 x4
        have r0 := hG.out 0 _ rfl
        have r1 := hG.out 1 _ rfl
        have r2 := hG.out 2 _ rfl
        have r3 := hG.out 3 _ rfl
        have r4 := hG.out 4 _ rfl
        have r5 := hG.out 5 _ rfl
        rw [Nat.add_zero] at r0
        clear hcell hx hS hS2 hle2 hbr hwr hke HA HX hG
        simp only [clsXL] at HI
        generalize (⟨x.name.toArray⟩ : ByteArray) = y0 at *
        generalize x.iface = y1 at *
        generalize (⟨x.super.toArray⟩ : ByteArray) = y2 at *
        generalize x.ifaces.length = z1 at *
        generalize x.fields.length = z2 at *
        generalize x.methods.length = z3 at *
        have hlt' : (k : Int) < (len : Int) := by omega
        go_wp2_with fail
        refine (HI.out _).mono ?_
        rintro e w4 ⟨rfl, ⟨v4, h41⟩, h42⟩
        have HW4 := hide h41
        have HK4' := hide ((HKA.out _).trans h42)
        clear h41 h42 HI HKA r0 r1 r2 r3 r4 r5
        go_wp2_with fail
        go_roundw
        case rel => exact ⟨k + 1, v4, by omega, by go_num, HW4.out, HK4'.out⟩
        case measure => simp [intOf]; omega
      · rw [List.take_of_length_le (by rw [← HL.out]; omega), ← HTX.out, ← HTx2.out] at hwr
        have hb2 := HBa.out.trans hke.bel
        obtain ⟨a2, c2, rfl⟩ := Sh.own_shape hwr.2.2.2
        have c0 := hwr.cell
        have HO := hide hwr.2.2.2
        have HB2 := hide hb2
        clear hwr hke hb2
        by_cases h6 : TX.length ≤ 6000
        · have h6' : ¬ (6000 : Int) < (TX.length : Int) := by omega
          go_wp2_with fail
          go_ret2
          refine ⟨?_, HB2.out⟩
          rw [HQ.out, HB.out, ← HTx2.out]
          refine ⟨.slice a2 TX.length c2, ?_, ?_⟩
          · rw [if_pos rfl, if_pos h6]; rfl
          · rw [if_pos ⟨rfl, h6⟩]; exact HO.out
        · have h6' : (6000 : Int) < (TX.length : Int) := by omega
          go_wp2_with fail
          go_ret2
          refine ⟨?_, HB2.out⟩
          rw [HQ.out, HB.out, ← HTx2.out]
          refine ⟨.slice none 0 0, ?_, ?_⟩
          · rw [if_pos rfl, if_neg h6]; rfl
          · rw [if_neg (fun h => h6 h.2)]

end Go.Proofs.YtdgfidaopkcjoaaDoor

namespace Go.Proofs.YtdgfidaopkcjoaaDoor
open Go.RowKit
set_option linter.unusedVariables false
set_option linter.unusedSimpArgs false

namespace Pp
/-- A type's words without blanks; of what is none, none. -/
def typeT (t : Ty) : Bs := if typeB t = true then ((tyW t).map wtx).flatten else []
end Pp
namespace Sh
theorem join_nil (xs : List (List UInt8)) : Lib.join xs [] = xs.flatten := by
  unfold Lib.join
  rw [List.intercalate]
  induction xs with
  | nil => rfl
  | cons x r ih =>
    cases r with
    | nil => simp
    | cons y r => simp at ih ⊢; exact ih
theorem tyS_short {t : Pp.Ty} (h : Pp.okTy t) : (Sh.tyS t).flatten.length ≤ 100 := by
  have h1 := Pp.gw_ty h
  unfold tyS
  have key : ∀ ws : List Pp.Wd, (∀ w ∈ ws, Pp.GW w) → (ws.map Pp.wtx).flatten.length ≤ 21 * ws.length := by
    intro ws
    induction ws with
    | nil => simp
    | cons w r ih =>
      intro h
      have a1 := Lx.wordA_len _ _ (h w (by simp))
      have a2 := ih fun x hx => h x (by simp [hx])
      simp only [List.map_cons, List.flatten_cons, List.length_append, List.length_cons]
      omega
  have := key _ h1.1
  have := h1.2
  omega
end Sh

set_option maxRecDepth 100000 in
set_option maxHeartbeats 2000000 in
theorem Type_any (t : Pp.Ty) (hs : t.name.length ≤ maxLen) (w : World) (ht : TabS w) :
    Calls Tryd.prog 10 #[.agg #[.int .i64 t.kind, .string ⟨t.name.toArray⟩]] w fun e w' => e = .returned (.tuple #[.string ⟨(Pp.typeT t).toArray⟩, .int .i64 (if Pp.typeB t = true then 0 else 4)]) ∧ Below w.heap.size w w' := by
  have hT := hide (fun w' (hb : Below w.heap.size w w') => isType_any t hs w' (ht.below hb))
  clear ht
  cases hb : Pp.typeB t with
  | false =>
    rw [hb] at hT
    have hR : Hid (Pp.typeT t = []) := hide (by unfold Pp.typeT; rw [hb]; rfl)
    rw [hR.out]
    obtain ⟨k, n⟩ := t
    simp only at hT ⊢
    generalize (⟨n.toArray⟩ : ByteArray) = S at *
    clear hb
    go_enter Tryd.func10, Tryd.ntmps10
    go_wp2_with fail
    refine (hT.out _ ((Below.refl _ _).alloc (Nat.le_refl _) _)).mono ?_
    rintro e w1 ⟨rfl, hb1⟩
    obtain ⟨B1, HB, hsz⟩ := box_one hb1
    have HB := hide HB
    clear B1 hb1 hT
    go_wp2_with fail
    go_ret2
    exact ⟨rfl, HB.out⟩
  | true =>
    rw [hb] at hT
    have hok := (Pp.typeB_iff t).1 hb
    have hR : Hid (Pp.typeT t = (Sh.tyS t).flatten) := hide (by unfold Pp.typeT; rw [hb]; rfl)
    have hW := hide (fun w => typeWords_any t hok w)
    have hTl := tyS_len t
    have hsh := hide (Sh.tyS_short hok)
    rw [hR.out]
    have hJ : Hid (∀ (g : Nat) (w' : World), w'.heap[g]? = some (.cells (Sh.strsA (Sh.tyS t)) 9 (0, 0)) → Calls Tryd.prog 23 #[.slice (some ⟨g, 0, none⟩) (Sh.tyS t).length (Sh.tyS t).length, .string ⟨#[]⟩] w' fun e w'' => e = .returned (.string ⟨((Sh.tyS t).flatten).toArray⟩) ∧ Below w'.heap.size w' w'') := hide fun g w' hg => by
      have hd : ((Sh.tyS t).map fun s => (⟨s.toArray⟩ : ByteArray)).map (fun x => x.data.toList) = Sh.tyS t := by
        rw [List.map_map]; exact (List.map_congr_left (fun _ _ => rfl)).trans (List.map_id _)
      have h := Tryd.strings_Join g 0 (Sh.tyS t).length ((Sh.tyS t).map fun s => ⟨s.toArray⟩) ⟨#[]⟩ w' (fun j x hx => ?_) (Sh.lt_of_blk hg) (by simp; omega) (by simp) (by rw [hd, Sh.join_nil]; have := hsh.out; omega)
      · rw [hd, Sh.join_nil, List.length_map] at h
        exact h
      · rw [cell_box hg, Nat.zero_add, Sh.strsA]
        simp at hx ⊢
        obtain ⟨s, h1, h2⟩ := hx
        exact ⟨s, h1, by rw [h2]⟩
    generalize Sh.tyS t = ts at *
    obtain ⟨k, n⟩ := t
    simp only at hT hW ⊢
    generalize (⟨n.toArray⟩ : ByteArray) = S at *
    clear hb hok
    go_enter Tryd.func10, Tryd.ntmps10
    go_wp2_with fail
    refine (hT.out _ ((Below.refl _ _).alloc (Nat.le_refl _) _)).mono ?_
    rintro e w1 ⟨rfl, hb1⟩
    obtain ⟨B1, HB, hsz⟩ := box_one hb1
    have p0 : w1.cell? ⟨w.heap.size, 0, none⟩ = some (.int .i64 k) := B1 0
    have p1 : w1.cell? ⟨w.heap.size, 1, none⟩ = some (.string S) := B1 1
    have HB := hide HB
    clear B1 hb1 hT
    go_wp2_with fail
    refine (hW.out _).mono ?_
    rintro e w2 ⟨g, rfl, hg, hb2⟩
    have HB2 := hide (HB.out.trans (hb2.mono HB.out.size))
    have HJ := hide (hJ.out g w2 hg)
    clear hb2 hg hW p0 p1 hJ HB
    go_wp2_with fail
    refine HJ.out.mono ?_
    rintro e w3 ⟨rfl, hb3⟩
    have HB3 := hide (HB2.out.trans (hb3.mono HB2.out.size))
    clear hb3 HJ HB2
    go_wp2_with fail
    go_ret2
    exact ⟨rfl, HB3.out⟩

end Go.Proofs.YtdgfidaopkcjoaaDoor

namespace Go.Proofs.YtdgfidaopkcjoaaDoor
open Go.RowKit
set_option linter.unusedVariables false
set_option linter.unusedSimpArgs false

namespace Sh
theorem prog_one (w : World) (g : Nat) (n : Pp.Bs) (hn : n.length ≤ maxLen) (hg : w.heap[g]? = some (.cells #[.string ⟨n.toArray⟩, .bool false, .string ⟨#[]⟩, .slice none 0 0, .slice none 0 0, .slice none 0 0] 48 (0, 0))) : ProgX w (.slice (some ⟨g, 0, none⟩) 1 1) [⟨n, false, [], [], [], []⟩] := by
  refine ⟨⟨some ⟨g, 0, none⟩, 1, rfl, by simp, .inr ⟨g, 0, rfl, lt_of_blk hg, fun k x hx => ?_⟩⟩, by unfold maxLen; simp⟩
  have hk : k = 0 := by
    cases k with
    | zero => rfl
    | succ k => simp at hx
  subst hk
  simp at hx
  subst hx
  have hz : (0 : Nat) ≤ maxLen := Nat.zero_le _
  refine ⟨_, ⟨.slice none 0 0, .slice none 0 0, .slice none 0 0, rfl, ⟨none, 0, rfl, Nat.le_refl _, .inl rfl⟩, ⟨none, 0, rfl, Nat.le_refl _, .inl rfl⟩, ⟨none, 0, rfl, Nat.le_refl _, .inl rfl⟩, hn, hz, hz, hz, hz⟩, fun j u hj => ?_⟩
  rw [show 0 + 0 * 6 + j = j by omega, cell_box hg]
  simpa [clsXL] using hj
/-- Bytes of a row as a string. -/
theorem bytes_of {B : Nat} {w : World} {l : List UInt8} {rv : Value} (h : w.ownsRow B 5 1 rv l.length (l.map byV)) (h0 : l ≠ []) : ∃ g c, rv = .slice (some ⟨g, 0, none⟩) l.length c ∧ Lib.Bytes w g 0 ⟨l.toArray⟩ := by
  rcases h.2 with ⟨rfl, e⟩ | ⟨g, cap, cur, rfl, hb, hg, r1, r2, r3, r4⟩
  · exact absurd (List.length_eq_zero_iff.1 e) h0
  · refine ⟨g, cap, rfl, fun i hi => ?_⟩
    have hi' : i < l.length := by simpa [ByteArray.size] using hi
    rw [Nat.zero_add, cell_box hg]
    have h5 := congrArg (fun x : List Value => x[i]?) r4
    simp only [List.getElem?_map, List.getElem?_take] at h5
    rw [if_pos (by omega)] at h5
    rw [List.getElem?_eq_getElem hi'] at h5
    simp only [Option.map_some, Array.getElem?_toList] at h5
    rw [h5]
    rfl
end Sh

set_option maxRecDepth 100000 in
set_option maxHeartbeats 4000000 in
theorem wakes_any (w : World) (ht : TabS w) (hp : Tab w) (hg : 3 < w.heap.size ∧ 2 < w.heap.size ∧ 0 < w.heap.size) :
    Calls Tryd.prog 15 #[] w fun e w' => e = .returned (.bool true) ∧ Below w.heap.size w w' := by
  have HT : Hid (Sh.Tabs w.heap.size w) := hide ⟨ht, hp, hg⟩
  clear ht hp hg
  have HTx : Hid (∀ w', Below w.heap.size w w' → ∀ g, w'.heap[g]? = some (.cells #[.string ⟨#[65]⟩, .bool false, .string ⟨#[]⟩, .slice none 0 0, .slice none 0 0, .slice none 0 0] 48 (0, 0)) → Calls Tryd.prog 9 #[.agg #[.slice (some ⟨g, 0, none⟩) 1 1]] w' fun e w'' => (∃ g2 c2, e = .returned (.tuple #[.slice (some ⟨g2, 0, none⟩) 12 c2, .int .i64 0]) ∧ Lib.Bytes w'' g2 0 ⟨#[99, 108, 97, 115, 115, 32, 65, 32, 123, 10, 125, 10]⟩) ∧ Below w'.heap.size w' w'') := hide fun w' hb g hg => by
    have ht := HT.out.on hb
    refine (Text_any [⟨[65], false, [], [], [], []⟩] _ w' ht.ws ht.pw (by have := ht.hB; have := hb.size; omega) (Sh.prog_one w' g [65] (by unfold maxLen; simp) hg)).mono ?_
    rintro e w'' ⟨⟨rv, rfl, h1⟩, h2⟩
    have e1 : Pp.progB [⟨[65], false, [], [], [], []⟩] = true := by decide +kernel
    have e2 : Pp.textX [⟨[65], false, [], [], [], []⟩] = [99, 108, 97, 115, 115, 32, 65, 32, 123, 10, 125, 10] := by decide +kernel
    rw [e1, e2] at h1
    rw [if_pos (by decide)] at h1
    obtain ⟨g2, c2, rfl, h3⟩ := Sh.bytes_of h1 (by decide)
    refine ⟨⟨g2, c2, ?_, h3⟩, h2⟩
    rw [e1, e2]; rfl
  have HTy : Hid (∀ w', Below w.heap.size w w' → Calls Tryd.prog 10 #[.agg #[.int .i64 5, .string ⟨#[65]⟩]] w' fun e w'' => e = .returned (.tuple #[.string ⟨#[65, 91, 93]⟩, .int .i64 0]) ∧ Below w'.heap.size w' w'') := hide fun w' hb => by
    have h := Type_any ⟨5, [65]⟩ (by unfold maxLen; simp) w' (HT.out.on hb).ws
    have e1 : Pp.typeB ⟨5, [65]⟩ = true := by decide +kernel
    have e2 : Pp.typeT ⟨5, [65]⟩ = [65, 91, 93] := by decide +kernel
    rw [e1, e2] at h
    exact h
  have HCk : Hid (∀ w', Below w.heap.size w w' → ∀ g, w'.heap[g]? = some (.cells #[.string ⟨#[]⟩, .bool false, .string ⟨#[]⟩, .slice none 0 0, .slice none 0 0, .slice none 0 0] 48 (0, 0)) → Calls Tryd.prog 13 #[.agg #[.slice (some ⟨g, 0, none⟩) 1 1]] w' fun e w'' => e = .returned (.int .i64 4) ∧ Below w'.heap.size w' w'') := hide fun w' hb g hg => by
    have h := Check_any [⟨[], false, [], [], [], []⟩] _ w' (HT.out.on hb).ws (Sh.prog_one w' g [] (by unfold maxLen; simp) hg)
    have e1 : Pp.progB [⟨[], false, [], [], [], []⟩] = false := by decide +kernel
    rw [e1] at h
    exact h
  clear HT
  go_enter Tryd.func15, Tryd.ntmps15
  go_wp2_with fail
  refine (HTx.out _ ((Below.refl _ _).alloc (Nat.le_refl _) _) _ (heap_alloc_new w _)).mono ?_
  rintro e w1 ⟨⟨g2, c2, rfl, hby⟩, hb1⟩
  have HB1 := hide (((Below.refl _ _).alloc (Nat.le_refl _) _).trans (hb1.mono (by simp)))
  have HBY := hide hby
  clear hb1 hby HTx
  go_wp2_with fail
  refine (HTy.out _ HB1.out).mono ?_
  rintro e w2 ⟨rfl, hb2⟩
  have HB2 := hide (HB1.out.trans (hb2.mono HB1.out.size))
  have hg2 : g2 < w1.heap.size := World.block_lt_of_cell? w1 _ (HBY.out 0 (by decide))
  have hby2 : Lib.Bytes w2 g2 0 ⟨#[99, 108, 97, 115, 115, 32, 65, 32, 123, 10, 125, 10]⟩ := fun i hi => (hb2.cell (by exact hg2)).trans (HBY.out i hi)
  have hcv : (convert 29 9 (.slice (some ⟨g2, 0, none⟩) 12 c2)).run Tryd.prog w2 = .ok (.string ⟨#[99, 108, 97, 115, 115, 32, 65, 32, 123, 10, 125, 10]⟩) w2 := Lib.run_convert_whole w2 29 5 9 Tryd.underlying29 Tryd.underlying5 Tryd.underlying9 g2 0 _ hby2 c2
  clear hb2 HBY hg2 hby2 HTy HB1
  go_wp2_with fail
  refine (HCk.out _ (HB2.out.alloc HB2.out.size _) _ (heap_alloc_new w2 _)).mono ?_
  rintro e w3 ⟨rfl, hb3⟩
  have hA := HB2.out.alloc HB2.out.size (.cells #[.string ⟨#[]⟩, .bool false, .string ⟨#[]⟩, .slice none 0 0, .slice none 0 0, .slice none 0 0] 48)
  have HB3 := hide (hA.trans (hb3.mono hA.size))
  clear hb3 hA HCk HB2 hcv
  go_wp2_with fail
  go_ret
  exact ⟨rfl, HB3.out⟩

end Go.Proofs.YtdgfidaopkcjoaaDoor
